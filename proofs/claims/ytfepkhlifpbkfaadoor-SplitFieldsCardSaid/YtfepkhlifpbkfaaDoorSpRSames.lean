/-
  Proved: contract of the statements' own Same at rows of the same fields. Conditions: none.
-/
import Derived.Test.YtfepkhlifpbkfaaDoorSpRChars
import Derived.StillTailTactics
namespace Go.Proofs.YtfepkhlifpbkfaaDoor
open Go Go.RowKit GlyphMath GlMath SpMath

theorem Rds.at {w : World} {p : Option Addr} {n c : Nat} {L : List (List Ch)} (h : Rds w (.slice p n c) L) {k : Nat} {l : List Ch} (hk : L[k]? = some l) : ∃ (b o : Nat) (s : Sl), p = some ⟨b, o, none⟩ ∧ w.cell? ⟨b, o + k, none⟩ = some (slV s) ∧ Rd 2 cC w (slV s) l := by
  obtain ⟨vs, h1, h2, h3⟩ := h.is
  obtain ⟨s, hs⟩ : ∃ s, vs[k]? = some s := ⟨_, List.getElem?_eq_getElem (by rw [h2]; exact (List.getElem?_eq_some_iff.1 hk).1)⟩
  obtain ⟨b, o, hp, hc⟩ := h1.get hs
  have := hc k s hs 0 _ rfl
  rw [Nat.mul_one, Nat.add_zero] at this
  exact ⟨b, o, s, hp, this, h3 k s l hs hk⟩
theorem Rds.shape {w : World} {v : Value} {L : List (List Ch)} (h : Rds w v L) : ∃ p c, v = .slice p L.length c ∧ L.length ≤ maxLen := by
  obtain ⟨vs, h1, h2, h3⟩ := h.is
  obtain ⟨p, c, rfl⟩ := h1.shape
  have := h1.few
  rw [h2] at this ⊢
  exact ⟨p, c, rfl, this⟩
set_option maxRecDepth 8000 in
set_option maxHeartbeats 1000000 in
theorem rsames_any (L : List (List Ch)) (va vb : Value) (w : World) (ha : Rds w va L) (hb : Rds w vb L) :
    Calls Tryd.prog 5 #[va, vb] w fun e w' => e = .returned (.bool true) ∧ Below w.heap.size w w' := by
  obtain ⟨p1, c1, rfl, hm⟩ := ha.shape
  obtain ⟨p2, c2, rfl, -⟩ := hb.shape
  have HA := Lib.hid ha
  have HB := Lib.hid hb
  obtain ⟨N, hN⟩ : ∃ N, L.length = N := ⟨_, rfl⟩
  have HN := Lib.hid hN
  rw [hN] at hm HA HB ⊢
  unfold maxLen at hm
  clear ha hb hN
  go_enter Tryd.func5, Tryd.ntmps5
  go_wp2_with fail
  go_loopw [5] (fun v wr => ∃ i : Nat, v = .int .i64 (i : Int) ∧ i ≤ N ∧ Below w.heap.size w wr) (fun v _ => N - (intOf v).toNat)
  case atStart => exact ⟨0, rfl, by omega, Below.refl _ _⟩
  case round =>
    obtain ⟨i, rfl, hi, hbw⟩ := hrel
    have HW := Lib.hid hbw
    by_cases hlt : i < N
    · obtain ⟨x, hx⟩ : ∃ x, L[i]? = some x := ⟨_, List.getElem?_eq_getElem (by rw [HN.out]; omega)⟩
      obtain ⟨b1, o1, s1, hp1, e1, r1⟩ := (HA.out.below hbw).at hx
      obtain ⟨b2, o2, s2, hp2, e2, r2⟩ := (HB.out.below hbw).at hx
      subst hp1 hp2
      have HC := Lib.hid (fun n => rsame_any x (slV s1) (slV s2) (wr.drewN n) (r1.below (w' := wr.drewN n) (below_drewN (Below.refl wr.heap.size wr) n) (Nat.le_refl _)) (r2.below (w' := wr.drewN n) (below_drewN (Below.refl wr.heap.size wr) n) (Nat.le_refl _)))
      obtain ⟨q1, n1, m1⟩ := s1
      obtain ⟨q2, n2, m2⟩ := s2
      simp only [slV] at e1 e2 HC
      have hI : (i : Int) < (N : Int) := by omega
      have hi9 : (i : Int) + 1 ≤ 9223372036854775807 := by omega
      clear r1 r2 hx hbw
      go_wp2_with fail
      refine wp_region_still_tail 8 (by kernel_rfl) (by kernel_rfl) ?_
      simp only [List.take_succ_cons, List.take_zero, List.drop_succ_cons, List.drop_zero]
      repeat still_step
      try refine wpStill_nil ?_
      go_wp2_with (go_at_call 9; refine (HC.out 1).mono ?_; rintro e w2 ⟨rfl, hb2⟩; have B2 := Lib.hid (HW.out.trans ((below_drewN (Below.refl wr.heap.size wr) 1).mono HW.out.size)); have B3 := Lib.hid (B2.out.trans (hb2.mono B2.out.size)); clear hb2)
      go_roundw
      case rel => exact ⟨i + 1, by simp, by omega, B3.out⟩
      case measure => simp [intOf]; omega
    · have hI : ¬ (i : Int) < (N : Int) := by omega
      go_wp2_with fail
      go_ret
      exact ⟨rfl, HW.out⟩
end Go.Proofs.YtfepkhlifpbkfaaDoor
