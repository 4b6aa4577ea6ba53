/-
  Proved: contract of the statements' own Texts: are two rows one? Conditions: at most so many as a row may have.
-/
import Derived.Test.YtbbopbbnhkcfdaaEnMem
namespace Go.Proofs.Ytbbopbbnhkcfdaa
open Go Go.RowKit EnMath

theorem rTextss_any (a b : List ByteArray) (va vb : Value) (w : World) (ha : Rd 1 sC w va a) (hb : Rd 1 sC w vb b) (hl : a.length * 16 ≤ 140737488355328) :
    Calls Try.prog 35 #[va, vb] w fun e w' => e = .returned (.bool (decide (a = b))) ∧ Below w.heap.size w w' := by
  obtain ⟨p1, c1, rfl⟩ := ha.shape
  obtain ⟨p2, c2, rfl⟩ := hb.shape
  have HA := Lib.hid ha
  have HB := Lib.hid hb
  obtain ⟨N1, hN1⟩ : ∃ N, a.length = N := ⟨_, rfl⟩
  obtain ⟨N2, hN2⟩ : ∃ N, b.length = N := ⟨_, rfl⟩
  have HN := Lib.hid (And.intro hN1 hN2)
  rw [hN1] at hl
  rw [hN1, hN2]
  obtain ⟨Z, hZ⟩ : ∃ Z, decide (a = b) = Z := ⟨_, rfl⟩
  have HZ := Lib.hid hZ
  rw [hZ]
  have hmb := hb.few
  rw [hN2] at hmb
  unfold maxLen at hmb
  clear ha hb hN1 hN2 hZ
  by_cases hne : N1 = N2
  · subst hne
    go_enter Try.func35, Try.ntmps35
    go_wp2_with fail
    go_loopw [5] (fun v wr => ∃ i : Nat, v = .int .i64 (i : Int) ∧ i ≤ N1 ∧ (∀ k, k < i → a[k]? = b[k]?) ∧ Below w.heap.size w wr) (fun v _ => N1 - (intOf v).toNat)
    case atStart => exact ⟨0, rfl, by omega, fun k hk => absurd hk (by omega), Below.refl _ _⟩
    case round =>
      obtain ⟨i, rfl, hi, hs, hbw⟩ := hrel
      have HW := Lib.hid hbw
      have HS := Lib.hid hs
      have hi0 : (0 : Int) ≤ (i : Int) := by omega
      have hi9 : (i : Int) ≤ 140737488355328 := by omega
      clear hs hbw
      by_cases hlt : i < N1
      · obtain ⟨x, hx⟩ : ∃ x, a[i]? = some x := ⟨_, List.getElem?_eq_getElem (by rw [HN.out.1]; omega)⟩
        obtain ⟨y, hy⟩ : ∃ y, b[i]? = some y := ⟨_, List.getElem?_eq_getElem (by rw [HN.out.2]; omega)⟩
        obtain ⟨b1, o1, rfl, h1⟩ := HA.out.get hx
        obtain ⟨b2, o2, rfl, h2⟩ := HB.out.get hy
        have e1 := h1 i x hx 0 _ rfl
        have e2 := h2 i y hy 0 _ rfl
        rw [Nat.mul_one, Nat.add_zero] at e1 e2
        have d1 := (World.cell?_of_block (HW.out.block _ (World.block_lt_of_cell? w _ e1))).trans e1
        have d2 := (World.cell?_of_block (HW.out.block _ (World.block_lt_of_cell? w _ e2))).trans e2
        clear e1 e2
        have hI : (i : Int) < (N1 : Int) := by omega
        have HX := Lib.hid (And.intro hx hy)
        clear h1 h2 hx hy
        cases hc : eqN x y
        · have HF := Lib.hid (show Z = false by
            rw [← HZ.out]
            refine decide_eq_false fun e => ?_
            subst e
            rw [HX.out.1] at HX
            have := HX.out.2
            cases this
            rw [eqN_self] at hc; cases hc)
          have hz : (x.toList == y.toList) = false := hc
          clear hc
          go_wp2_with fail
          go_quiet (fail)
          all_goals
            go_wp2_with fail
            go_ret
            rw [HF.out]
            exact ⟨rfl, below_drewN HW.out _⟩
        · have HF := Lib.hid hc
          have hz : (x.toList == y.toList) = true := hc
          clear hc
          go_wp2_with fail
          go_quiet (fail)
          all_goals
            go_wp2_with fail
            go_roundw
            case rel =>
              refine ⟨i + 1, by go_num, by omega, fun k hk => ?_, below_drewN HW.out _⟩
              rcases Nat.lt_or_ge k i with h | h
              · exact HS.out k h
              · obtain rfl : k = i := by omega
                rw [HX.out.1, HX.out.2]
                rw [eqN_iff.1 HF.out]
            case measure => simp [intOf]; omega
      · have hI : ¬ ((i : Int) < (N1 : Int)) := by omega
        have HF := Lib.hid (show Z = true by
          rw [← HZ.out]
          refine decide_eq_true (List.ext_getElem? fun k => ?_)
          rcases Nat.lt_or_ge k i with h | h
          · exact HS.out k h
          · rw [List.getElem?_eq_none (by rw [HN.out.1]; omega), List.getElem?_eq_none (by rw [HN.out.2]; omega)])
        go_wp2_with fail
        go_ret
        rw [HF.out]
        exact ⟨rfl, HW.out⟩
  · have HF := Lib.hid (show Z = false by
      rw [← HZ.out]
      exact decide_eq_false fun e => hne (by rw [← HN.out.1, ← HN.out.2, e]))
    have hd : ((N1 : Int) == (N2 : Int)) = false := by simpa using fun e : (N1 : Int) = (N2 : Int) => hne (by omega)
    go_enter Try.func35, Try.ntmps35
    go_wp2_with fail
    go_ret
    rw [HF.out]
    exact ⟨rfl, Below.refl _ _⟩
end Go.Proofs.Ytbbopbbnhkcfdaa
