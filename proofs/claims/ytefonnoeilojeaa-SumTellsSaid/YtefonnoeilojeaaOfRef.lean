/-
  Proved: the statements' own package of chapter 2 answers a row's sum and changes nothing. Conditions: the row can be read.
-/
import Derived.Test.YtefonnoeilojeaaOf
namespace Go.Proofs.Ytefonnoeilojeaa
open Go Go.RowKit SumMath NetMem

def RelE2 (x : Nat) (w : World) (v i : Value) (wr : World) : Prop :=
  ∃ k y : Nat, k ≤ 8 ∧ y < 4294967296 ∧ v = .int .u32 (y : Int) ∧ i = .int .i64 (k : Int) ∧ tapN (8 - k) y = tapN 8 x ∧ w = wr
theorem xor_ones (x : Nat) (hx : x < 4294967296) : bits .xor .u32 4294967295 (x : Int) = ((x ^^^ ones : Nat) : Int) := by
  rw [Nat.xor_comm]
  exact xor32 ones x (by decide) hx
theorem last_bit (y : Nat) (hy : y < 4294967296) : bits .and .u32 (y : Int) 1 = ((y % 2 : Nat) : Int) := by
  have := u32_and_nat y 1 hy (by decide)
  rw [nat_mask1] at this
  rw [← this]
  rfl

set_option maxHeartbeats 2000000 in
set_option maxRecDepth 100000 in
theorem refof_any (p : Option Addr) (c : Nat) (l : List UInt8) (w : World) (h : Row w (.slice p l.length c) l) :
    Calls Try.prog 8 #[.slice p l.length c] w fun e w' => e = .returned (.int .u32 (sumOf l : Nat)) ∧ w = w' := by
  obtain ⟨-, h1, h2, hcc⟩ := Row.nums h
  have HC := Lib.hid hcc
  have HM : l.length ≤ 9223372036854775807 := by unfold maxLen at h2; omega
  clear h h2 hcc
  go_enter Try.func8, Try.ntmps8
  go_wp2_with fail
  go_loopw [3, 4] (fun v i wr => RelI ones l w v i wr) (fun _ i _ => l.length - (intOf i).toNat)
  case atStart => exact ⟨0, by omega, rfl, rfl, rfl⟩
  case round =>
    obtain ⟨j, hj, rfl, rfl, rfl⟩ := hrel
    have hy0 : sumL ones (l.take j) < 4294967296 := sumL_lt _ (by decide)
    by_cases hjt : j < l.length
    · obtain ⟨x0, hx⟩ : ∃ x0, x0 = sumL ones (l.take j) := ⟨_, rfl⟩
      rw [← hx] at hy0 ⊢
      have HX := Lib.hid hx
      clear hx
      obtain ⟨b2, o2, hq, hcell⟩ := HC.out (by omega)
      subst hq
      have hcj := hcell j hjt
      obtain ⟨d, hd⟩ : ∃ d, d = l[j] := ⟨_, rfl⟩
      rw [← hd] at hcj
      have hdl := d.toNat_lt
      have HD := Lib.hid hd
      have hxe := xor32 x0 d.toNat hy0 (byte_lt d)
      have hxl := xor_lt hy0 (byte_lt d)
      clear hd hcell
      go_wp2_with fail
      obtain ⟨z, hz⟩ : ∃ z, z = x0 ^^^ d.toNat := ⟨_, rfl⟩
      rw [← hz] at hxl ⊢
      have HZ := Lib.hid hz
      clear hz hxe
      go_loopw [3, 5] (fun v i wr => RelE2 z w v i wr) (fun _ i _ => 8 - (intOf i).toNat)
      case atStart => exact ⟨0, z, by omega, hxl, rfl, rfl, rfl, rfl⟩
      case round =>
        obtain ⟨k, y, hk, hy, rfl, rfl, hs, rfl⟩ := hrel
        have hlb := last_bit y hy
        by_cases hlt : k < 8
        · by_cases hodd : y % 2 = 1
          · have h1 : (bits .and .u32 (y : Int) 1 == 1) = true := by rw [hlb, hodd]; rfl
            clear hlb
            go_wp2_with fail
            exact ⟨⟨k + 1, _, by omega, tapT_lt hy, by rw [half_xor y hy, odd_step hodd], by go_num, by rw [step_on hlt, hs], rfl⟩, by simp [intOf]; omega⟩
          · have h1 : (bits .and .u32 (y : Int) 1 == 1) = false := by rw [hlb, show y % 2 = 0 by omega]; rfl
            clear hlb
            go_wp2_with fail
            exact ⟨⟨k + 1, _, by omega, tapT_lt hy, by rw [even_step hodd]; go_num, by go_num, by rw [step_on hlt, hs], rfl⟩, by simp [intOf]; omega⟩
        · obtain rfl : k = 8 := by omega
          clear hlb
          go_wp2_with fail
          refine ⟨⟨j + 1, by omega, ?_, by go_num, rfl⟩, by simp [intOf]; omega⟩
          rw [sumL_take ones l j hjt, ← HD.out, ← HX.out, show tapB x0 d = tapN 8 z by rw [HZ.out]; rfl, ← hs]
          rfl
    · obtain rfl : j = l.length := by omega
      rw [List.take_length] at hy0 ⊢
      go_wp2_with fail
      go_ret
      exact ⟨by rw [show IntKind.u32.max = (4294967295 : Int) from rfl, xor_ones _ hy0]; rfl, rfl⟩
end Go.Proofs.Ytefonnoeilojeaa
