/-
  Proved: sum's eight steps of a number, in the program; a number's exclusive or, as a natural number's. Conditions: numbers below 2^32.
-/
import Derived.Test.YtilplpjdbkipoaaGreatDoorChecked
import Derived.Test.YtilplpjdbkipoaaGreatDoorSumMath
import Derived.Lib.Hide
import Derived.LoopTactic
import Derived.WalkKit
import Derived.IntWalk
import Derived.Laws.BitsAllLaws
namespace Go.Proofs.YtilplpjdbkipoaaGreatDoor
open Go Go.RowKit SumMath

def RelE (x : Nat) (w : World) (v i : Value) (wr : World) : Prop :=
  ∃ k y : Nat, k ≤ 8 ∧ y < 4294967296 ∧ v = .int .u32 (y : Int) ∧ i = .int .i64 (k : Int) ∧ tapN (8 - k) y = tapN 8 x ∧ w = wr

theorem xor32 (a b : Nat) (ha : a < 4294967296) (hb : b < 4294967296) : bits .xor .u32 (a : Int) (b : Int) = ((a ^^^ b : Nat) : Int) := u32_xor_nat a b ha hb
theorem half_xor (y : Nat) (hy : y < 4294967296) : bits .xor .u32 ((y : Int) / 2) 2197175160 = ((y / 2 ^^^ poly : Nat) : Int) := by
  have := xor32 (y / 2) poly (by omega) (by decide)
  rw [← this]
  rfl
theorem odd_step {y : Nat} (h : y % 2 = 1) : tapT y = y / 2 ^^^ poly := by unfold tapT; rw [if_pos h]
theorem even_step {y : Nat} (h : ¬ y % 2 = 1) : tapT y = y / 2 := by unfold tapT; rw [if_neg h]
theorem step_on {k : Nat} (hk : k < 8) (y : Nat) : tapN (8 - (k + 1)) (tapT y) = tapN (8 - k) y := by
  rw [show 8 - k = (8 - (k + 1)) + 1 by omega]
  rfl

set_option maxHeartbeats 2000000 in
set_option maxRecDepth 100000 in
theorem eight_any (x : Nat) (hx : x < 4294967296) (w : World) :
    Calls Tryz.prog 84 #[.int .u32 (x : Int)] w fun e w' => e = .returned (.int .u32 (tapN 8 x : Nat)) ∧ w = w' := by
  go_enter Tryz.func84, Tryz.ntmps84
  go_wp2_with fail
  go_loopw [0, 4] (fun v i wr => RelE x w v i wr) (fun _ i _ => 8 - (intOf i).toNat)
  case atStart => exact ⟨0, x, by omega, hx, rfl, rfl, rfl, rfl⟩
  case round =>
    obtain ⟨k, y, hk, hy, rfl, rfl, hs, rfl⟩ := hrel
    by_cases hlt : k < 8
    · by_cases hodd : y % 2 = 1
      · go_wp2_with fail
        exact ⟨⟨k + 1, _, by omega, tapT_lt hy, by rw [half_xor y hy, odd_step hodd], by go_num, by rw [step_on hlt, hs], rfl⟩, by simp [intOf]; omega⟩
      · go_wp2_with fail
        exact ⟨⟨k + 1, _, by omega, tapT_lt hy, by rw [even_step hodd]; go_num, by go_num, by rw [step_on hlt, hs], rfl⟩, by simp [intOf]; omega⟩
    · obtain rfl : k = 8 := by omega
      go_wp2_with fail
      go_ret
      refine ⟨?_, rfl⟩
      rw [← hs]
      rfl

/-- A byte. -/
theorem byte_any (x : Nat) (hx : x < 4294967296) (c : UInt8) (w : World) :
    Calls Tryz.prog 84 #[.int .u32 (bits .xor .u32 (x : Int) (c.toNat : Int))] w fun e w' => e = .returned (.int .u32 (tapB x c : Nat)) ∧ w = w' := by
  rw [xor32 x c.toNat hx (byte_lt c)]
  exact eight_any (x ^^^ c.toNat) (xor_lt hx (byte_lt c)) w
end Go.Proofs.YtilplpjdbkipoaaGreatDoor
