/-
  Proved: the statements' own package of chapter 2: a row's sum; four bytes of a number, a number of four bytes; it changes nothing. Conditions: the row can be read; numbers below 2^32.
-/
import Derived.Test.YtffjdpkgcgdfdaaSumB
import Derived.Test.YtffjdpkgcgdfdaaSpanGet
namespace Go.Proofs.Ytffjdpkgcgdfdaa
open Go Go.RowKit SumMath NetMem

def RelE2 (x : Nat) (w : World) (v i : Value) (wr : World) : Prop :=
  ∃ k y : Nat, k ≤ 8 ∧ y < 4294967296 ∧ v = .int .u32 (y : Int) ∧ i = .int .i64 (k : Int) ∧ tapN (8 - k) y = tapN 8 x ∧ w = wr
theorem xor_ones (x : Nat) (hx : x < 4294967296) : bits .xor .u32 4294967295 (x : Int) = ((x ^^^ ones : Nat) : Int) := by
  rw [Nat.xor_comm]
  exact xor32 ones x (by decide) hx
theorem last_bit (y : Nat) (hy : y < 4294967296) : bits .and .u32 (y : Int) 1 = ((y % 2 : Nat) : Int) := by
  have := u32_and_nat y 1 hy (by decide)
  rw [nat_mask1] at this
  rw [← this]
  rfl

set_option maxHeartbeats 2000000 in
set_option maxRecDepth 100000 in
theorem refof_any (p : Option Addr) (c : Nat) (l : List UInt8) (w : World) (h : Row w (.slice p l.length c) l) :
    Calls Try.prog 48 #[.slice p l.length c] w fun e w' => e = .returned (.int .u32 (sumOf l : Nat)) ∧ w = w' := by
  obtain ⟨-, h1, h2, hcc⟩ := Row.nums h
  have HC := Lib.hid hcc
  have HM : l.length ≤ 9223372036854775807 := by unfold maxLen at h2; omega
  clear h h2 hcc
  go_enter Try.func48, Try.ntmps48
  go_wp2_with fail
  go_loopw [3, 4] (fun v i wr => RelI ones l w v i wr) (fun _ i _ => l.length - (intOf i).toNat)
  case atStart => exact ⟨0, by omega, rfl, rfl, rfl⟩
  case round =>
    obtain ⟨j, hj, rfl, rfl, rfl⟩ := hrel
    have hy0 : sumL ones (l.take j) < 4294967296 := sumL_lt _ (by decide)
    by_cases hjt : j < l.length
    · obtain ⟨x0, hx⟩ : ∃ x0, x0 = sumL ones (l.take j) := ⟨_, rfl⟩
      rw [← hx] at hy0 ⊢
      have HX := Lib.hid hx
      clear hx
      obtain ⟨b2, o2, hq, hcell⟩ := HC.out (by omega)
      subst hq
      have hcj := hcell j hjt
      obtain ⟨d, hd⟩ : ∃ d, d = l[j] := ⟨_, rfl⟩
      rw [← hd] at hcj
      have hdl := d.toNat_lt
      have HD := Lib.hid hd
      have hxe := xor32 x0 d.toNat hy0 (byte_lt d)
      have hxl := xor_lt hy0 (byte_lt d)
      clear hd hcell
      go_wp2_with fail
      obtain ⟨z, hz⟩ : ∃ z, z = x0 ^^^ d.toNat := ⟨_, rfl⟩
      rw [← hz] at hxl ⊢
      have HZ := Lib.hid hz
      clear hz hxe
      go_loopw [3, 5] (fun v i wr => RelE2 z w v i wr) (fun _ i _ => 8 - (intOf i).toNat)
      case atStart => exact ⟨0, z, by omega, hxl, rfl, rfl, rfl, rfl⟩
      case round =>
        obtain ⟨k, y, hk, hy, rfl, rfl, hs, rfl⟩ := hrel
        have hlb := last_bit y hy
        by_cases hlt : k < 8
        · by_cases hodd : y % 2 = 1
          · have h1 : (bits .and .u32 (y : Int) 1 == 1) = true := by rw [hlb, hodd]; rfl
            clear hlb
            go_wp2_with fail
            exact ⟨⟨k + 1, _, by omega, tapT_lt hy, by rw [half_xor y hy, odd_step hodd], by go_num, by rw [step_on hlt, hs], rfl⟩, by simp [intOf]; omega⟩
          · have h1 : (bits .and .u32 (y : Int) 1 == 1) = false := by rw [hlb, show y % 2 = 0 by omega]; rfl
            clear hlb
            go_wp2_with fail
            exact ⟨⟨k + 1, _, by omega, tapT_lt hy, by rw [even_step hodd]; go_num, by go_num, by rw [step_on hlt, hs], rfl⟩, by simp [intOf]; omega⟩
        · obtain rfl : k = 8 := by omega
          clear hlb
          go_wp2_with fail
          refine ⟨⟨j + 1, by omega, ?_, by go_num, rfl⟩, by simp [intOf]; omega⟩
          rw [sumL_take ones l j hjt, ← HD.out, ← HX.out, show tapB x0 d = tapN 8 z by rw [HZ.out]; rfl, ← hs]
          rfl
    · obtain rfl : j = l.length := by omega
      rw [List.take_length] at hy0 ⊢
      go_wp2_with fail
      go_ret
      exact ⟨by rw [show IntKind.u32.max = (4294967295 : Int) from rfl, xor_ones _ hy0]; rfl, rfl⟩

set_option maxHeartbeats 2000000 in
set_option maxRecDepth 100000 in
theorem reffour_any (n : Nat) (hn : n < 4294967296) (w : World) :
    Calls Try.prog 56 #[.int .u32 (n : Int)] w fun e w' => ∃ v, e = .returned v ∧ NetMem.Own w' w.heap.size v (fourB n) ∧ Below w.heap.size w w' := by
  go_enter Try.func56, Try.ntmps56
  go_wp2_with fail
  go_ret
  refine ⟨_, rfl, ?_, (Below.refl _ w).alloc (Nat.le_refl _) _⟩
  have hc := four_cells n hn
  exact NetMem.Own.made w 5 (fourB n) 4 (Nat.le_refl 4) (by simp [maxLen]) _ rfl (fun j h => by
    rw [hc]
    have := bc_at (fourB n) j h
    simpa using this) w.heap.size (Nat.le_refl _)

theorem refget_few (p : Option Addr) (n c : Nat) (w : World) (h : n < 4) :
    Calls Try.prog 47 #[.slice p n c] w fun e w' => e = .returned (.int .u32 0) ∧ w = w' := by
  go_enter Try.func47, Try.ntmps47
  go_wp2_with fail
  go_ret
  exact ⟨rfl, rfl⟩

set_option maxHeartbeats 2000000 in
set_option maxRecDepth 100000 in
theorem refget_q (b o n c : Nat) (l : List UInt8) (w : World) (h : Row w (.slice (some ⟨b, o, none⟩) n c) l) (h4 : 4 ≤ l.length) :
    Calls Try.prog 47 #[.slice (some ⟨b, o, none⟩) n c] w fun e w' => e = .returned (.int .u32 (getB l : Nat)) ∧ ∃ m, w' = w.drewN m := by
  obtain ⟨rfl, h1, h2, -⟩ := Row.nums h
  have hc := Row.range h (by omega)
  unfold maxLen at h2
  obtain ⟨c0, c1, c2, c3, r, rfl⟩ : ∃ c0 c1 c2 c3 r, l = c0 :: c1 :: c2 :: c3 :: r := by
    match l, h4 with
    | c0 :: c1 :: c2 :: c3 :: r, _ => exact ⟨c0, c1, c2, c3, r, rfl⟩
  have d0 := hc 0 (by simp)
  have d1 := hc 1 (by simp)
  have d2 := hc 2 (by simp)
  have d3 := hc 3 (by simp)
  simp only [List.getElem_cons_zero, List.getElem_cons_succ, Nat.add_zero] at d0 d1 d2 d3
  obtain ⟨n, hn⟩ : ∃ n, n = (c0 :: c1 :: c2 :: c3 :: r).length := ⟨_, rfl⟩
  rw [← hn] at h1 h4 ⊢
  have b0 := c0.toNat_lt
  have b1 := c1.toNat_lt
  have b2 := c2.toNat_lt
  have b3 := c3.toNat_lt
  clear hc hn h
  go_enter Try.func47, Try.ntmps47
  go_wp2_with fail
  go_quiet (fail)
  go_wp2
  go_ret
  exact ⟨by rw [four_join]; rfl, _, rfl⟩
end Go.Proofs.Ytffjdpkgcgdfdaa
