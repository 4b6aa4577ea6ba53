/-
  Proved: plain facts: what is reckoned of two numbers. Conditions: as each says.
-/
import Derived.Test.YtlgbfhjbfolibaaDoorArOne
import Derived.Test.YtlgbfhjbfolibaaDoorArItoa
import Derived.KernelRfl
namespace Go.Proofs.YtlgbfhjbfolibaaDoor
open Go ArMath

def twoVars (a b : B) : Vars := [([97], a), ([98], b)]
theorem s_add (a b : B) : evalM (twoVars a b) [97, 32, 43, 32, 98] = outM (some ⟨[], [(twoV [43] (valM a).1 (valM b).1).1], [], ((false || !(valM a).2) || !(valM b).2) || !(twoV [43] (valM a).1 (valM b).1).2⟩) := by kernel_rfl
theorem s_mul (a b : B) : evalM (twoVars a b) [97, 42, 98, 32, 45, 32, 98] = outM (some ⟨[], [(twoV [45] (twoV [42] (valM a).1 (valM b).1).1 (valM b).1).1], [], ((((false || !(valM a).2) || !(valM b).2) || !(twoV [42] (valM a).1 (valM b).1).2) || !(valM b).2) || !(twoV [45] (twoV [42] (valM a).1 (valM b).1).1 (valM b).1).2⟩) := by kernel_rfl
theorem s_lss (a b : B) : evalM (twoVars a b) [97, 32, 60, 32, 98] = outM (some ⟨[], [(twoV [60] (valM a).1 (valM b).1).1], [], ((false || !(valM a).2) || !(valM b).2) || !(twoV [60] (valM a).1 (valM b).1).2⟩) := by kernel_rfl
theorem s_quo (a b : B) : evalM (twoVars a b) [97, 32, 47, 32, 98, 32, 42, 32, 98, 32, 43, 32, 97, 32, 37, 32, 98] = outM (some ⟨[], [(twoV [43] (twoV [42] (twoV [47] (valM a).1 (valM b).1).1 (valM b).1).1 (twoV [37] (valM a).1 (valM b).1).1).1], [],
    ((((((((false || !(valM a).2) || !(valM b).2) || !(twoV [47] (valM a).1 (valM b).1).2) || !(valM b).2) || !(twoV [42] (twoV [47] (valM a).1 (valM b).1).1 (valM b).1).2) || !(valM a).2) || !(valM b).2) || !(twoV [37] (valM a).1 (valM b).1).2) || !(twoV [43] (twoV [42] (twoV [47] (valM a).1 (valM b).1).1 (valM b).1).1 (twoV [37] (valM a).1 (valM b).1).1).2⟩) := by kernel_rfl
theorem val_itoa (n : Int) (hn : ArMath.I64 n) : valM (Lib.itoa n) = (n, true) := by
  unfold valM
  rw [itoa_num n hn]; rfl
/-- The numbers that the law speaks of. -/
def Near (a : Int) : Prop := -1073741824 ≤ a ∧ a ≤ 1073741824
theorem Near.i {a : Int} (h : Near a) : ArMath.I64 a := ⟨by have := h.1; omega, by have := h.2; omega⟩
theorem near_mul {a b : Int} (ha : Near a) (hb : Near b) : -1152921504606846976 ≤ a * b ∧ a * b ≤ 1152921504606846976 := by
  obtain ⟨h1, h2⟩ := ha
  obtain ⟨h3, h4⟩ := hb
  have h : (a * b).natAbs ≤ 1073741824 * 1073741824 := by
    rw [Int.natAbs_mul]
    exact Nat.mul_le_mul (by omega) (by omega)
  omega
theorem sums_add {a b : Int} (ha : Near a) (hb : Near b) : evalM (twoVars (Lib.itoa a) (Lib.itoa b)) [97, 32, 43, 32, 98] = (a + b, 0) := by
  have hI : ArMath.I64 (a + b) := ⟨by have := ha.1; have := hb.1; omega, by have := ha.2; have := hb.2; omega⟩
  have ht : twoV [43] a b = (a + b, true) := by
    show (wr (a + b), inR (a + b)) = _
    rw [wr_in hI, (inR_iff _).2 hI]
  rw [s_add, val_itoa a ha.i, val_itoa b hb.i, ht]; rfl
theorem sums_mul {a b : Int} (ha : Near a) (hb : Near b) : evalM (twoVars (Lib.itoa a) (Lib.itoa b)) [97, 42, 98, 32, 45, 32, 98] = (a * b - b, 0) := by
  have hm := near_mul ha hb
  have hI : ArMath.I64 (a * b) := ⟨by omega, by omega⟩
  have hJ : ArMath.I64 (a * b - b) := ⟨by have := hb.2; omega, by have := hb.1; omega⟩
  have ht : twoV [42] a b = (a * b, true) := by
    show (wr (a * b), inR (a * b)) = _
    rw [wr_in hI, (inR_iff _).2 hI]
  have hu : twoV [45] (a * b) b = (a * b - b, true) := by
    show (wr (a * b - b), inR (a * b - b)) = _
    rw [wr_in hJ, (inR_iff _).2 hJ]
  rw [s_mul, val_itoa a ha.i, val_itoa b hb.i, ht, hu]; rfl
theorem sums_lss {a b : Int} (ha : Near a) (hb : Near b) : evalM (twoVars (Lib.itoa a) (Lib.itoa b)) [97, 32, 60, 32, 98] = (truV (decide (a < b)), 0) := by
  rw [s_lss, val_itoa a ha.i, val_itoa b hb.i]; rfl
theorem sums_quo {a b : Int} (ha : Near a) (hb : Near b) (h0 : b ≠ 0) : evalM (twoVars (Lib.itoa a) (Lib.itoa b)) [97, 32, 47, 32, 98, 32, 42, 32, 98, 32, 43, 32, 97, 32, 37, 32, 98] = (a, 0) := by
  have hq : ArMath.I64 (a.tdiv b) := tdiv_in a b ha.i h0 (fun h => by have := ha.1; omega)
  have t1 : twoV [47] a b = (a.tdiv b, true) := by
    show (if b = 0 then (0, false) else (wr (a.tdiv b), inR (a.tdiv b))) = _
    rw [if_neg h0, wr_in hq, (inR_iff _).2 hq]
  have e : a.tdiv b * b + a.tmod b = a := by rw [Int.mul_comm]; exact Int.mul_tdiv_add_tmod a b
  have hr : (a.tmod b).natAbs ≤ a.natAbs := by rw [Int.natAbs_tmod]; exact Nat.mod_le _ _
  have hm : ArMath.I64 (a.tdiv b * b) := ⟨by have := ha.1; have := ha.2; omega, by have := ha.1; have := ha.2; omega⟩
  have t2 : twoV [42] (a.tdiv b) b = (a.tdiv b * b, true) := by
    show (wr (a.tdiv b * b), inR (a.tdiv b * b)) = _
    rw [wr_in hm, (inR_iff _).2 hm]
  have t3 : twoV [37] a b = (a.tmod b, true) := by
    show (if b = 0 then (0, false) else (a.tmod b, true)) = _
    rw [if_neg h0]
  have t4 : twoV [43] (a.tdiv b * b) (a.tmod b) = (a, true) := by
    show (wr (a.tdiv b * b + a.tmod b), inR (a.tdiv b * b + a.tmod b)) = _
    rw [e, wr_in ha.i, (inR_iff _).2 ha.i]
  rw [s_quo, val_itoa a ha.i, val_itoa b hb.i]
  simp only [t1, t2, t3, t4]
  rfl
theorem sums_zero {a : Int} (ha : Near a) : evalM (twoVars (Lib.itoa a) (Lib.itoa 0)) [97, 32, 47, 32, 98, 32, 42, 32, 98, 32, 43, 32, 97, 32, 37, 32, 98] = (0, 6) := by
  rw [s_quo, val_itoa a ha.i, val_itoa 0 ⟨by decide, by decide⟩]
  have t1 : twoV [47] a 0 = (0, false) := rfl
  simp only [t1]
  simp [outM]
end Go.Proofs.YtlgbfhjbfolibaaDoor
