/-
  Proved: contracts of arith's one, product, ratio. Conditions: numbers of 64 binary digits with sign.
-/
import Derived.Test.YtlgbfhjbfolibaaDoorArSign
import Derived.Lib.Hide
namespace Go.Proofs.YtlgbfhjbfolibaaDoor
open Go Go.RowKit ArMath

theorem wr_in {x : Int} (h : I64 x) : wr x = x := by obtain ⟨h1, h2⟩ := h; unfold wr RowKit.wrap64; omega
theorem wr_I (x : Int) : I64 (wr x) := by unfold wr I64 RowKit.wrap64; omega
theorem wr_eq (x : Int) : ∃ k : Int, wr x = x - k * 18446744073709551616 := ⟨(x + 9223372036854775808) / 18446744073709551616, by unfold wr RowKit.wrap64; omega⟩
theorem inR_iff (x : Int) : inR x = true ↔ I64 x := by unfold inR I64; simp
theorem inR_ff (x : Int) : inR x = false ↔ ¬ I64 x := by rw [← Bool.not_eq_true, inR_iff]

theorem tdiv_near (n a : Int) (ha : a ≠ 0) : ∃ r : Int, n = a * (n.tdiv a) + r ∧ r.natAbs < a.natAbs := ⟨n.tmod a, (Int.mul_tdiv_add_tmod n a).symm, by rw [Int.natAbs_tmod]; exact Nat.mod_lt _ (by omega)⟩
theorem tdiv_in (a b : Int) (ha : I64 a) (h0 : b ≠ 0) (h : ¬ (a = -9223372036854775808 ∧ b = -1)) : I64 (a.tdiv b) := by
  obtain ⟨h1, h2⟩ := ha
  have hn : (a.tdiv b).natAbs = a.natAbs / b.natAbs := Int.natAbs_tdiv a b
  by_cases hb1 : b.natAbs = 1
  · rcases Int.natAbs_eq b with e | e <;> rw [hb1] at e
    · rw [e]; simp [I64]; omega
    · have : b = -1 := by omega
      subst this
      rw [show (-1 : Int) = -(1 : Int) from rfl, Int.tdiv_neg, Int.tdiv_one]
      unfold I64
      omega
  · have h2 : a.natAbs / b.natAbs ≤ a.natAbs / 2 := Nat.div_le_div_left (by omega) (by omega)
    unfold I64
    omega
/-- What is multiplied leads back just if it was not too much. -/
theorem prod_back (a b : Int) (ha : I64 a) (hb : I64 b) (h0 : a ≠ 0) : inR (a * b) = (decide (wr ((wr (a * b)).tdiv a) = b) && !(decide (a = -1) && decide (b = -9223372036854775808))) := by
  rw [Bool.eq_iff_iff, inR_iff, Bool.and_eq_true, decide_eq_true_eq]
  constructor
  · intro h
    rw [wr_in h, Int.mul_tdiv_cancel_left _ h0, wr_in hb]
    refine ⟨rfl, ?_⟩
    by_cases e1 : a = -1 <;> by_cases e2 : b = -9223372036854775808 <;> simp [e1, e2]
    subst e1 e2
    exact absurd h.2 (by decide)
  · rintro ⟨h, hx⟩
    obtain ⟨k, hk⟩ := wr_eq (a * b)
    have hI := wr_I (a * b)
    by_cases hc : wr (a * b) = -9223372036854775808 ∧ a = -1
    · obtain ⟨c1, rfl⟩ := hc
      rw [c1] at h
      have : b = -9223372036854775808 := by rw [← h]; decide +kernel
      rw [this] at hx
      exact absurd hx (by decide)
    rw [wr_in (tdiv_in _ _ hI h0 hc)] at h
    obtain ⟨r, hr, hlt⟩ := tdiv_near (wr (a * b)) a h0
    rw [h] at hr
    obtain ⟨h1, h2⟩ := ha
    have hk0 : k = 0 := by
      rw [hk] at hr
      generalize a * b = p at hr
      omega
    rw [hk, hk0] at hI
    unfold I64 at hI ⊢
    omega
theorem tmod_in (a b : Int) (hb : I64 b) (h0 : b ≠ 0) : I64 (a.tmod b) := by
  have : (a.tmod b).natAbs = a.natAbs % b.natAbs := Int.natAbs_tmod a b
  have h2 := Nat.mod_lt a.natAbs (show b.natAbs > 0 by omega)
  obtain ⟨h1, h3⟩ := hb
  unfold I64
  have h4 : a.tmod b = 0 ∨ (0 ≤ a.tmod b ∧ 0 ≤ a) ∨ (a.tmod b ≤ 0 ∧ a ≤ 0) := by
    rcases Int.le_total 0 a with h | h
    · exact .inr (.inl ⟨Int.tmod_nonneg b h, h⟩)
    · right; right
      refine ⟨?_, h⟩
      have := Int.tmod_nonneg b (show 0 ≤ -a by omega)
      rw [Int.neg_tmod] at this
      omega
  omega

theorem one_any (s : ByteArray) (a : Int) (ha : I64 a) (w : World) :
    Calls Tryd.prog 45 #[.string s, .int .i64 a] w fun e w' => e = .returned (.tuple #[.int .i64 (oneV s.data.toList a).1, .bool (oneV s.data.toList a).2]) ∧ w = w' := by
  rw [← Lib.toList_data]
  have HA := Lib.hid ha
  have HT := Lib.hid (fun b W => truth_any b W)
  clear ha
  go_enter Tryd.func45, Tryd.ntmps45
  go_wp2_with (first
    | (go_at_call 61; (with_reducible refine (HT.out _ _).mono ?_); rintro e w1 ⟨rfl, rfl⟩))
  all_goals
    go_ret2
    refine ⟨ret_two ?_ ?_, rfl⟩
  · rename_i h; simp only [beq_iff_eq] at h; simp [oneV, h]; rfl
  · rename_i h; simp only [beq_iff_eq] at h; simp [oneV, h]
  · rename_i h; simp only [beq_eq_false_iff_ne] at h; simp [oneV, h, wr]
  · rename_i h
    simp only [beq_eq_false_iff_ne] at h
    simp only [oneV, h, if_false]
    obtain ⟨h1, h2⟩ := HA.out
    rw [Bool.eq_iff_iff, inR_iff]
    simp [I64]
    omega

theorem product_any (a b : Int) (ha : I64 a) (hb : I64 b) (w : World) :
    Calls Tryd.prog 62 #[.int .i64 a, .int .i64 b] w fun e w' => e = .returned (.tuple #[.int .i64 (wr (a * b)), .bool (inR (a * b))]) ∧ w = w' := by
  have HE := Lib.hid (fun h0 => prod_back a b ha hb h0)
  clear ha hb
  go_enter Tryd.func62, Tryd.ntmps62
  go_wp2_with fail
  all_goals
    go_ret2
    refine ⟨ret_two ?_ ?_, rfl⟩
  · rename_i h; subst h; simp [wr]
  · rename_i h; subst h; simp [inR]
  · rename_i h0 h1 h2; subst h2; simp [wr]
  · rename_i h0 h1 h2
    rw [HE.out h0]
    simp only [wr, h1]
    subst h2
    simp
    rfl
  · rename_i h0 h1 h2; rfl
  · rename_i h0 h1 h2
    rw [HE.out h0]
    simp [wr, h1, h2]
  · rename_i h0 h1; rfl
  · rename_i h0 h1
    rw [HE.out h0]
    simp only [wr, h1, decide_false, Bool.false_and]
    simpa using h0
theorem ratio_any (s : ByteArray) (a b : Int) (ha : I64 a) (w : World) :
    Calls Tryd.prog 63 #[.string s, .int .i64 a, .int .i64 b] w fun e w' => e = .returned (.tuple #[.int .i64 (if b = 0 then 0 else if s.data.toList = [37] then a.tmod b else wr (a.tdiv b)), .bool (if b = 0 then false else if s.data.toList = [37] then true else inR (a.tdiv b))]) ∧ w = w' := by
  rw [← Lib.toList_data]
  obtain ⟨R1, hR1⟩ : ∃ R, (if b = 0 then 0 else if s.toList = [37] then a.tmod b else wr (a.tdiv b)) = R := ⟨_, rfl⟩
  obtain ⟨R2, hR2⟩ : ∃ R, (if b = 0 then false else if s.toList = [37] then true else inR (a.tdiv b)) = R := ⟨_, rfl⟩
  rw [hR1, hR2]
  by_cases h0 : b = 0
  · subst h0
    have HR := Lib.hid (And.intro hR1 hR2)
    clear ha hR1 hR2
    go_enter Tryd.func63, Tryd.ntmps63
    go_wp2_with fail
    go_ret2
    exact ⟨ret_two (by rw [← HR.out.1]; rfl) (by rw [← HR.out.2]; rfl), rfl⟩
  · rw [if_neg h0] at hR1 hR2
    by_cases h1 : s.toList = [37]
    · rw [if_pos h1] at hR1 hR2
      have HR := Lib.hid (And.intro hR1 hR2)
      have h2 : (s.toList == [37]) = true := by simpa using h1
      clear ha hR1 hR2 h1
      go_enter Tryd.func63, Tryd.ntmps63
      go_wp2_with fail
      all_goals
        go_ret2
        exact ⟨ret_two HR.out.1 HR.out.2, rfl⟩
    · rw [if_neg h1] at hR1 hR2
      have HE := Lib.hid (fun h => tdiv_in a b ha h0 h)
      have HR := Lib.hid (And.intro hR1 hR2)
      have h2 : (s.toList == [37]) = false := by simpa using h1
      clear ha hR1 hR2 h1
      go_enter Tryd.func63, Tryd.ntmps63
      go_wp2_with fail
      all_goals
        go_ret2
        refine ⟨ret_two (by first | exact HR.out.1 | (rw [← HR.out.1]; simp_all [wr])) ?_, rfl⟩
        rw [← HR.out.2]
      · rename_i h3 h4
        by_cases h5 : b = -1
        · subst h5; subst h4; decide +kernel
        · have := (inR_iff _).2 (HE.out fun h => h5 h.2)
          rw [this]
          simpa using h5
      · rename_i h3 h4
        exact ((inR_iff _).2 (HE.out fun h => h4 h.1)).symm
end Go.Proofs.YtlgbfhjbfolibaaDoor
