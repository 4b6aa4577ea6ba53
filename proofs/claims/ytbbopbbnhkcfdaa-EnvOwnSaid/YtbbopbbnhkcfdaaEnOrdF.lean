/-
  Proved: contract of ordered, over rows of api.Fun. Conditions: at most 1000 entries.
-/
import Derived.Test.YtbbopbbnhkcfdaaEnMem
import Derived.Deep.RegionHeld3
namespace Go.Proofs.Ytbbopbbnhkcfdaa
open Go Go.RowKit EnMath

set_option maxHeartbeats 2000000 in
theorem orderedF_any (l : List (ByteArray × Int)) (v : Value) (w : World) (h : Rd 2 fC w v l) (hl : l.length ≤ 1000) :
    Calls Try.prog 24 #[v, .func (.func 25) #[] #[]] w fun e w' => e = .returned (.bool (isO l)) ∧ Below w.heap.size w w' := by
  obtain ⟨p, c, rfl⟩ := h.shape
  have HR := Lib.hid h
  obtain ⟨N, hN⟩ : ∃ N, l.length = N := ⟨_, rfl⟩
  have HN := Lib.hid hN
  obtain ⟨Z, hZ⟩ : ∃ Z, isO l = Z := ⟨_, rfl⟩
  have HZ := Lib.hid hZ
  rw [hZ, hN]
  rw [hN] at hl
  clear h hN hZ
  go_enter Try.func24, Try.ntmps24
  go_wp2_with fail
  go_loopw [5] (fun v wr => ∃ i j : Nat, v = .int .i64 (i : Int) ∧ i = j + 1 ∧ j ≤ N ∧ (∀ (k : Nat) (x y : (ByteArray × Int)), k < j → l[k]? = some x → l[k + 1]? = some y → ltN x.1 y.1 = true) ∧ Below w.heap.size w wr) (fun v _ => N - (intOf v).toNat)
  case atStart => exact ⟨1, 0, rfl, rfl, by omega, fun k x y hk => absurd hk (by omega), Below.refl _ _⟩
  case round =>
    obtain ⟨i, j, rfl, hij, hj, hso, hb⟩ := hrel
    have HB := Lib.hid hb
    have HS := Lib.hid hso
    clear hso hb
    have hi0 : (0 : Int) ≤ (i : Int) := by omega
    have hi9 : (i : Int) ≤ 1001 := by omega
    by_cases hlt : j + 1 < N
    · obtain ⟨x, hx⟩ : ∃ x, l[j]? = some x := ⟨_, List.getElem?_eq_getElem (by rw [HN.out]; omega)⟩
      obtain ⟨y, hy⟩ : ∃ y, l[j + 1]? = some y := ⟨_, List.getElem?_eq_getElem (by rw [HN.out]; omega)⟩
      obtain ⟨b0, o0, rfl, hcc⟩ := HR.out.get hx
      have d0 := hcc j x hx 0 _ rfl
      have d1 := hcc j x hx 1 _ rfl
      have d2 := hcc (j + 1) y hy 0 _ rfl
      have d3 := hcc (j + 1) y hy 1 _ rfl
      rw [← hij] at d2 d3
      rw [Nat.add_zero] at d0 d2
      have hbl := World.block_lt_of_cell? w _ d0
      obtain ⟨x1, x2⟩ := x
      obtain ⟨y1, y2⟩ := y
      have HK := Lib.hid (fun (W : World) (hW : Below w.heap.size w W) => (show W.cell? ⟨b0, o0 + j * 2, none⟩ = some (.string x1) ∧ W.cell? ⟨b0, o0 + j * 2 + 1, none⟩ = some (.int .i64 x2) ∧ W.cell? ⟨b0, o0 + i * 2, none⟩ = some (.string y1) ∧ W.cell? ⟨b0, o0 + i * 2 + 1, none⟩ = some (.int .i64 y2) from
        ⟨(World.cell?_of_block (hW.block b0 hbl)).trans d0, (World.cell?_of_block (hW.block b0 hbl)).trans d1, (World.cell?_of_block (hW.block b0 hbl)).trans d2, (World.cell?_of_block (hW.block b0 hbl)).trans d3⟩))
      have hI1 : (i : Int) < (N : Int) := by omega
      have hI2 : (j : Int) < (N : Int) := by omega
      have hI3 : (0 : Int) ≤ (j : Int) := by omega
      have e1 : IntKind.i64.wrap ((i : Int) - 1) = (j : Int) := by
        rw [hij, Int.natCast_add, Int.natCast_one, Int.add_sub_cancel]; exact IntWalk.i64_in _ ⟨by omega, by omega⟩
      have HIJ := Lib.hid hij
      clear hij hlt
      have HX := Lib.hid (And.intro hx hy)
      clear hcc hx hy d0 d1 d2 d3 hbl
      cases hc : ltN x1 y1
      · have hz : Op.bytesLess x1.toList y1.toList = false := hc
        have HF := Lib.hid (show Z = false by rw [← HZ.out]; exact ord_not HX.out.1 HX.out.2 hc)
        clear hc
        go_wp2_with fail
        go_region_held3 (fun V => V.cell? ⟨b0, o0 + j * 2, none⟩ = some (.string x1) ∧ V.cell? ⟨b0, o0 + j * 2 + 1, none⟩ = some (.int .i64 x2) ∧ V.cell? ⟨b0, o0 + i * 2, none⟩ = some (.string y1) ∧ V.cell? ⟨b0, o0 + i * 2 + 1, none⟩ = some (.int .i64 y2)) (first | assumption | exact HK.out _ HB.out.drew | exact HK.out _ HB2.out | exact HK.out _ HB1.out) ((first
          | (go_at_call 25; (refine (funName_any x1 x2 _).mono ?_); rintro e w1 ⟨rfl, hb1⟩; have HB1 := Lib.hid (HB.out.drew.trans (hb1.mono HB.out.drew.size)); clear hb1)
          | (go_at_call 25; (refine (funName_any y1 y2 w1).mono ?_); rintro e w2 ⟨rfl, hb2⟩; have HB2 := Lib.hid (HB1.out.trans (hb2.mono HB1.out.size)); clear hb2)))
        all_goals
          go_wp2_with fail
          go_ret
          rw [HF.out]
          exact ⟨rfl, HB2.out⟩
      · have hz : Op.bytesLess x1.toList y1.toList = true := hc
        have HF := Lib.hid hc
        clear hc
        go_wp2_with fail
        go_region_held3 (fun V => V.cell? ⟨b0, o0 + j * 2, none⟩ = some (.string x1) ∧ V.cell? ⟨b0, o0 + j * 2 + 1, none⟩ = some (.int .i64 x2) ∧ V.cell? ⟨b0, o0 + i * 2, none⟩ = some (.string y1) ∧ V.cell? ⟨b0, o0 + i * 2 + 1, none⟩ = some (.int .i64 y2)) (first | assumption | exact HK.out _ HB.out.drew | exact HK.out _ HB2.out | exact HK.out _ HB1.out) ((first
          | (go_at_call 25; (refine (funName_any x1 x2 _).mono ?_); rintro e w1 ⟨rfl, hb1⟩; have HB1 := Lib.hid (HB.out.drew.trans (hb1.mono HB.out.drew.size)); clear hb1)
          | (go_at_call 25; (refine (funName_any y1 y2 w1).mono ?_); rintro e w2 ⟨rfl, hb2⟩; have HB2 := Lib.hid (HB1.out.trans (hb2.mono HB1.out.size)); clear hb2)))
        all_goals
          go_wp2_with fail
          go_roundw
          case rel =>
            refine ⟨i + 1, i, by go_num, rfl, by omega, fun k x y hk h1 h2 => ?_, HB2.out⟩
            rcases Nat.lt_or_ge k j with h | h
            · exact HS.out k x y h h1 h2
            · obtain rfl : k = j := by have := HIJ.out; omega
              rw [HX.out.1] at h1
              rw [HX.out.2] at h2
              cases h1
              cases h2
              exact HF.out
          case measure => simp [intOf]; omega
    · have HF := Lib.hid (show Z = true by
        rw [← HZ.out]
        exact isO_iff.2 (ord_adj fun k x y h1 h2 => HS.out k x y (by have := (List.getElem?_eq_some_iff.1 h2).1; rw [HN.out] at this; omega) h1 h2))
      have hI1 : ¬ ((i : Int) < (N : Int)) := by omega
      clear hij hlt hj
      go_wp2_with fail
      go_ret
      rw [HF.out]
      exact ⟨rfl, HB.out⟩
end Go.Proofs.Ytbbopbbnhkcfdaa
