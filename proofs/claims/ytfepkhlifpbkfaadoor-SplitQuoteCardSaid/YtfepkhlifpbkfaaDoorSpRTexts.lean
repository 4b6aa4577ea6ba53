/-
  Proved: contract of the statements' own Texts at two rows of the same texts. Conditions: as many as a row may have.
-/
import Derived.Test.YtfepkhlifpbkfaaDoorRdMem
namespace Go.Proofs.YtfepkhlifpbkfaaDoor
open Go Go.RowKit

set_option maxHeartbeats 1000000 in
/-- Two rows of the same texts are one. -/
theorem rtexts_any (a : List ByteArray) (va vb : Value) (w : World) (ha : Rd 1 sC w va a) (hb : Rd 1 sC w vb a) :
    Calls Tryd.prog 15 #[va, vb] w fun e w' => e = .returned (.bool true) ∧ Below w.heap.size w w' := by
  obtain ⟨p1, c1, rfl⟩ := ha.shape
  obtain ⟨p2, c2, rfl⟩ := hb.shape
  have HA := Lib.hid ha
  have HB := Lib.hid hb
  obtain ⟨N, hN⟩ : ∃ N, a.length = N := ⟨_, rfl⟩
  have HN := Lib.hid hN
  have hmb := hb.few
  rw [hN] at hmb ⊢
  unfold maxLen at hmb
  clear ha hb hN
  go_enter Tryd.func15, Tryd.ntmps15
  go_wp2_with fail
  go_loopw [5] (fun v wr => ∃ i : Nat, v = .int .i64 (i : Int) ∧ i ≤ N ∧ Below w.heap.size w wr) (fun v _ => N - (intOf v).toNat)
  case atStart => exact ⟨0, rfl, by omega, Below.refl _ _⟩
  case round =>
    obtain ⟨i, rfl, hi, hbw⟩ := hrel
    have HW := Lib.hid hbw
    clear hbw
    by_cases hlt : i < N
    · obtain ⟨x, hx⟩ : ∃ x, a[i]? = some x := ⟨_, List.getElem?_eq_getElem (by rw [HN.out]; omega)⟩
      obtain ⟨b1, o1, rfl, h1⟩ := HA.out.get hx
      obtain ⟨b2, o2, rfl, h2⟩ := HB.out.get hx
      have e1 := h1 i x hx 0 _ rfl
      have e2 := h2 i x hx 0 _ rfl
      rw [Nat.mul_one, Nat.add_zero] at e1 e2
      have d1 := (World.cell?_of_block (HW.out.block _ (World.block_lt_of_cell? w _ e1))).trans e1
      have d2 := (World.cell?_of_block (HW.out.block _ (World.block_lt_of_cell? w _ e2))).trans e2
      have hI : (i : Int) < (N : Int) := by omega
      have hi9 : (i : Int) + 1 ≤ 9223372036854775807 := by omega
      clear e1 e2 h1 h2 hx
      go_wp2_with fail
      go_quiet (fail)
      all_goals
        go_wp2_with fail
        go_roundw
        case rel => exact ⟨i + 1, by simp, by omega, below_drewN HW.out _⟩
        case measure => simp [intOf]; omega
    · have hI : ¬ (i : Int) < (N : Int) := by omega
      go_wp2_with fail
      go_ret
      exact ⟨rfl, HW.out⟩
end Go.Proofs.YtfepkhlifpbkfaaDoor
