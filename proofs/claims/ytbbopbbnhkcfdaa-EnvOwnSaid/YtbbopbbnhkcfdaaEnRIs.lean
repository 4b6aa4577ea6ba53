/-
  Proved: contract of the statements' own Is. Conditions: at most 1000 variables and functions.
-/
import Derived.Test.YtbbopbbnhkcfdaaEnEnv
namespace Go.Proofs.Ytbbopbbnhkcfdaa
open Go Go.RowKit EnMath

set_option maxHeartbeats 2000000 in
theorem ris_any {E : Ev} (v : Value) (w : World) (h : EnvAt w v E) (h1 : E.vars.length ≤ 1000) (h3 : E.funs.length ≤ 1000) :
    Calls Try.prog 6 #[v] w fun e w' => e = .returned (.bool (isO E.vars && isO E.funs)) ∧ Below w.heap.size w w' := by
  obtain ⟨p1, c1, p2, c2, p3, c3, rfl, r1, r2, r3⟩ := h.shape
  obtain ⟨W2, hW2⟩ : ∃ W, w.alloc (.cells #[.slice p1 E.vars.length c1, .slice p2 E.args.length c2, .slice p3 E.funs.length c3] 26) = W := ⟨_, rfl⟩
  have hb : Below w.heap.size w W2 := by rw [← hW2]; exact en_alloc (Below.refl _ w) _
  have hX : W2.heap[w.heap.size]? = some (.cells #[.slice p1 E.vars.length c1, .slice p2 E.args.length c2, .slice p3 E.funs.length c3] 26 (0, 0)) := by rw [← hW2]; exact heap_alloc_new w _
  have hXl : w.heap.size < W2.heap.size := (Array.getElem?_eq_some_iff.1 hX).1
  have HK := Lib.hid (fun (W : World) (hW : Below W2.heap.size W2 W) => (show W.cell? ⟨w.heap.size, 0, none⟩ = some (.slice p1 E.vars.length c1) ∧ W.cell? ⟨w.heap.size, 2, none⟩ = some (.slice p3 E.funs.length c3) from ⟨cell_of_row W _ 0 _ _ _ ((hW.block _ hXl).trans hX), cell_of_row W _ 2 _ _ _ ((hW.block _ hXl).trans hX)⟩))
  have r1' := r1.below hb (Nat.le_refl _)
  have r3' := r3.below hb (Nat.le_refl _)
  have HV := Lib.hid (fun W (hW : Below W2.heap.size W2 W) => r1'.below hW (Nat.le_refl _))
  have HF := Lib.hid (fun W (hW : Below W2.heap.size W2 W) => r3'.below hW (Nat.le_refl _))
  have HB := Lib.hid hb
  obtain ⟨N1, hN1⟩ : ∃ N, E.vars.length = N := ⟨_, rfl⟩
  obtain ⟨N2, hN2⟩ : ∃ N, E.args.length = N := ⟨_, rfl⟩
  obtain ⟨N3, hN3⟩ : ∃ N, E.funs.length = N := ⟨_, rfl⟩
  obtain ⟨ZA, hA⟩ : ∃ A, isO E.vars = A := ⟨_, rfl⟩
  obtain ⟨ZB, hB⟩ : ∃ B, isO E.funs = B := ⟨_, rfl⟩
  have HN := Lib.hid (And.intro hN1 hN3)
  have HZ := Lib.hid (And.intro hA hB)
  rw [hA, hB]
  rw [hN1] at h1
  rw [hN3] at h3
  rw [hN1, hN2, hN3] at hW2
  rw [hN1] at HV HK
  rw [hN3] at HF HK
  rw [hN1, hN2, hN3]
  clear h hb hX hXl r1 r2 r3 r1' r3' hN1 hN2 hN3 hA hB
  go_enter Try.func6, Try.ntmps6
  go_wp2_with (rw [hW2]; clear hW2)
  go_loopw [3] (fun v wr => ∃ i j : Nat, v = .int .i64 (i : Int) ∧ i = j + 1 ∧ j ≤ N1 ∧ (∀ (k : Nat) (x y : (ByteArray × ByteArray)), k < j → E.vars[k]? = some x → E.vars[k + 1]? = some y → ltN x.1 y.1 = true) ∧ Below W2.heap.size W2 wr) (fun v _ => N1 - (intOf v).toNat)
  case atStart => exact ⟨1, 0, rfl, rfl, by omega, fun k x y hk => absurd hk (by omega), Below.refl _ _⟩
  case round =>
    obtain ⟨i, j, rfl, hij, hj, hso, hbw⟩ := hrel
    have HW := Lib.hid hbw
    have HS := Lib.hid hso
    obtain ⟨k0, k2⟩ := HK.out wr hbw
    clear hso hbw
    have hi0 : (0 : Int) ≤ (i : Int) := by omega
    have hi9 : (i : Int) ≤ 1001 := by omega
    by_cases hlt : j + 1 < N1
    · obtain ⟨x, hx⟩ : ∃ x, E.vars[j]? = some x := ⟨_, List.getElem?_eq_getElem (by rw [HN.out.1]; omega)⟩
      obtain ⟨y, hy⟩ : ∃ y, E.vars[j + 1]? = some y := ⟨_, List.getElem?_eq_getElem (by rw [HN.out.1]; omega)⟩
      obtain ⟨b0, o0, rfl, hcc⟩ := (HV.out wr HW.out).get hx
      have d0 := hcc j x hx 0 _ rfl
      have d2 := hcc (j + 1) y hy 0 _ rfl
      rw [← hij] at d2
      rw [Nat.add_zero] at d0 d2
      obtain ⟨x1, x2⟩ := x
      obtain ⟨y1, y2⟩ := y
      have hI1 : (i : Int) < (N1 : Int) := by omega
      have hI2 : (j : Int) < (N1 : Int) := by omega
      have hI3 : (0 : Int) ≤ (j : Int) := by omega
      have e1 : IntKind.i64.wrap ((i : Int) - 1) = (j : Int) := by
        rw [hij, Int.natCast_add, Int.natCast_one, Int.add_sub_cancel]; exact IntWalk.i64_in _ ⟨by omega, by omega⟩
      have HIJ := Lib.hid hij
      have HX := Lib.hid (And.intro hx hy)
      clear hcc hx hy hij hlt hj
      cases hc : ltN x1 y1
      · have hz : Op.bytesLess x1.toList y1.toList = false := hc
        have HFF := Lib.hid (show ZA = false by rw [← HZ.out.1]; exact ord_not HX.out.1 HX.out.2 hc)
        clear hc
        go_wp2_with fail
        go_quiet (fail)
        all_goals
          go_wp2_with fail
          go_ret
          rw [HFF.out]
          exact ⟨rfl, en_trans HB.out (below_drewN HW.out _)⟩
      · have hz : Op.bytesLess x1.toList y1.toList = true := hc
        have HFF := Lib.hid hc
        clear hc
        go_wp2_with fail
        go_quiet (fail)
        all_goals
          go_wp2_with fail
          go_roundw
          case rel =>
            refine ⟨i + 1, i, by go_num, rfl, by omega, fun k x y hk h1 h2 => ?_, below_drewN HW.out _⟩
            rcases Nat.lt_or_ge k j with h | h
            · exact HS.out k x y h h1 h2
            · obtain rfl : k = j := by have := HIJ.out; omega
              rw [HX.out.1] at h1
              rw [HX.out.2] at h2
              cases h1
              cases h2
              exact HFF.out
          case measure => simp [intOf]; omega
    · have HFF := Lib.hid (show ZA = true by
        rw [← HZ.out.1]
        exact isO_iff.2 (ord_adj fun k x y h1 h2 => HS.out k x y (by have := (List.getElem?_eq_some_iff.1 h2).1; rw [HN.out.1] at this; omega) h1 h2))
      have hI1 : ¬ ((i : Int) < (N1 : Int)) := by omega
      clear hij hlt hj
      go_wp2_with fail
      have HFA := HFF
      clear HFF k0 k2 hi0 hi9 hI1 HS
      go_loopw [4] (fun v wr => ∃ i j : Nat, v = .int .i64 (i : Int) ∧ i = j + 1 ∧ j ≤ N3 ∧ (∀ (k : Nat) (x y : (ByteArray × Int)), k < j → E.funs[k]? = some x → E.funs[k + 1]? = some y → ltN x.1 y.1 = true) ∧ Below W2.heap.size W2 wr) (fun v _ => N3 - (intOf v).toNat)
      case atStart => exact ⟨1, 0, rfl, rfl, by omega, fun k x y hk => absurd hk (by omega), HW.out⟩
      case round =>
        clear HW
        obtain ⟨i, j, rfl, hij, hj, hso, hbw⟩ := hrel
        have HW := Lib.hid hbw
        have HS := Lib.hid hso
        obtain ⟨k0, k2⟩ := HK.out wr hbw
        clear hso hbw
        have hi0 : (0 : Int) ≤ (i : Int) := by omega
        have hi9 : (i : Int) ≤ 1001 := by omega
        by_cases hlt : j + 1 < N3
        · obtain ⟨x, hx⟩ : ∃ x, E.funs[j]? = some x := ⟨_, List.getElem?_eq_getElem (by rw [HN.out.2]; omega)⟩
          obtain ⟨y, hy⟩ : ∃ y, E.funs[j + 1]? = some y := ⟨_, List.getElem?_eq_getElem (by rw [HN.out.2]; omega)⟩
          obtain ⟨b0, o0, rfl, hcc⟩ := (HF.out wr HW.out).get hx
          have d0 := hcc j x hx 0 _ rfl
          have d2 := hcc (j + 1) y hy 0 _ rfl
          rw [← hij] at d2
          rw [Nat.add_zero] at d0 d2
          obtain ⟨x1, x2⟩ := x
          obtain ⟨y1, y2⟩ := y
          have hI1 : (i : Int) < (N3 : Int) := by omega
          have hI2 : (j : Int) < (N3 : Int) := by omega
          have hI3 : (0 : Int) ≤ (j : Int) := by omega
          have e1 : IntKind.i64.wrap ((i : Int) - 1) = (j : Int) := by
            rw [hij, Int.natCast_add, Int.natCast_one, Int.add_sub_cancel]; exact IntWalk.i64_in _ ⟨by omega, by omega⟩
          have HIJ := Lib.hid hij
          have HX := Lib.hid (And.intro hx hy)
          clear hcc hx hy hij hlt hj
          cases hc : ltN x1 y1
          · have hz : Op.bytesLess x1.toList y1.toList = false := hc
            have HFF := Lib.hid (show ZB = false by rw [← HZ.out.2]; exact ord_not HX.out.1 HX.out.2 hc)
            clear hc
            go_wp2_with fail
            go_quiet (fail)
            all_goals
              go_wp2_with fail
              go_ret
              rw [HFA.out, HFF.out]
              exact ⟨rfl, en_trans HB.out (below_drewN HW.out _)⟩
          · have hz : Op.bytesLess x1.toList y1.toList = true := hc
            have HFF := Lib.hid hc
            clear hc
            go_wp2_with fail
            go_quiet (fail)
            all_goals
              go_wp2_with fail
              go_roundw
              case rel =>
                refine ⟨i + 1, i, by go_num, rfl, by omega, fun k x y hk h1 h2 => ?_, below_drewN HW.out _⟩
                rcases Nat.lt_or_ge k j with h | h
                · exact HS.out k x y h h1 h2
                · obtain rfl : k = j := by have := HIJ.out; omega
                  rw [HX.out.1] at h1
                  rw [HX.out.2] at h2
                  cases h1
                  cases h2
                  exact HFF.out
              case measure => simp [intOf]; omega
        · have HFF := Lib.hid (show ZB = true by
            rw [← HZ.out.2]
            exact isO_iff.2 (ord_adj fun k x y h1 h2 => HS.out k x y (by have := (List.getElem?_eq_some_iff.1 h2).1; rw [HN.out.2] at this; omega) h1 h2))
          have hI1 : ¬ ((i : Int) < (N3 : Int)) := by omega
          clear hij hlt hj
          go_wp2_with fail
          go_ret
          rw [HFA.out, HFF.out]
          exact ⟨rfl, en_trans HB.out HW.out⟩
end Go.Proofs.Ytbbopbbnhkcfdaa
