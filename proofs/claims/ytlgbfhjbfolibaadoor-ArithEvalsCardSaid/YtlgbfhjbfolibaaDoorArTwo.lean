/-
  Proved: the contract of arith's two. Conditions: numbers of 64 binary digits with sign.
-/
import Derived.Test.YtlgbfhjbfolibaaDoorArOne
namespace Go.Proofs.YtlgbfhjbfolibaaDoor
open Go Go.RowKit ArMath

section
variable {l : B} {a b : Int}
theorem tv_add (h : (l == [43]) = true) : twoV l a b = (wr (a + b), inR (a + b)) := by
  obtain rfl : l = [43] := by simpa using h
  simp [twoV]
theorem tv_sub (h : (l == [45]) = true) : twoV l a b = (wr (a - b), inR (a - b)) := by
  obtain rfl : l = [45] := by simpa using h
  simp [twoV]
theorem tv_mul (h : (l == [42]) = true) : twoV l a b = (wr (a * b), inR (a * b)) := by
  obtain rfl : l = [42] := by simpa using h
  simp [twoV]
theorem tv_lss (h : (l == [60]) = true) : twoV l a b = (truV (decide (a < b)), true) := by
  obtain rfl : l = [60] := by simpa using h
  simp [twoV]
theorem tv_leq (h : (l == [60, 61]) = true) : twoV l a b = (truV (decide (a ≤ b)), true) := by
  obtain rfl : l = [60, 61] := by simpa using h
  simp [twoV]
theorem tv_gtr (h : (l == [62]) = true) : twoV l a b = (truV (decide (b < a)), true) := by
  obtain rfl : l = [62] := by simpa using h
  simp [twoV]
theorem tv_geq (h : (l == [62, 61]) = true) : twoV l a b = (truV (decide (b ≤ a)), true) := by
  obtain rfl : l = [62, 61] := by simpa using h
  simp [twoV]
theorem tv_eql (h : (l == [61, 61]) = true) : twoV l a b = (truV (decide (a = b)), true) := by
  obtain rfl : l = [61, 61] := by simpa using h
  simp [twoV]
theorem tv_quo (h : (l == [47]) = true) : twoV l a b = (if b = 0 then 0 else if l = [37] then a.tmod b else wr (a.tdiv b), if b = 0 then false else if l = [37] then true else inR (a.tdiv b)) := by
  obtain rfl : l = [47] := by simpa using h
  by_cases h0 : b = 0 <;> simp [twoV, h0]
theorem tv_rem (h : (l == [37]) = true) : twoV l a b = (if b = 0 then 0 else if l = [37] then a.tmod b else wr (a.tdiv b), if b = 0 then false else if l = [37] then true else inR (a.tdiv b)) := by
  obtain rfl : l = [37] := by simpa using h
  by_cases h0 : b = 0 <;> simp [twoV, h0]
theorem tv_neq (h1 : (l == [43]) = false) (h2 : (l == [45]) = false) (h3 : (l == [42]) = false) (h4 : (l == [47]) = false) (h5 : (l == [37]) = false) (h6 : (l == [60]) = false) (h7 : (l == [60, 61]) = false) (h8 : (l == [62]) = false) (h9 : (l == [62, 61]) = false) (h10 : (l == [61, 61]) = false) :
    twoV l a b = (truV (!decide (a = b)), true) := by
  simp only [beq_eq_false_iff_ne, ne_eq] at *
  simp [twoV, *]
end
theorem two_end {p q : Int × Bool} {P1 : Int} {P2 : Bool} (h : p = q) (h1 : p.1 = P1) (h2 : p.2 = P2) : q.1 = P1 ∧ q.2 = P2 := by subst h; exact ⟨h1, h2⟩
theorem sub_gt (a b : Int) (ha : I64 a) (hb : I64 b) : (decide (a < wr (a + b)) == decide (0 < b)) = inR (a + b) := by
  obtain ⟨h1, h2⟩ := ha
  obtain ⟨h3, h4⟩ := hb
  rw [Bool.eq_iff_iff, inR_iff, beq_iff_eq, Bool.eq_iff_iff, decide_eq_true_eq, decide_eq_true_eq]
  unfold wr RowKit.wrap64 I64
  omega
theorem sub_lt (a b : Int) (ha : I64 a) (hb : I64 b) : (decide (wr (a - b) < a) == decide (0 < b)) = inR (a - b) := by
  obtain ⟨h1, h2⟩ := ha
  obtain ⟨h3, h4⟩ := hb
  rw [Bool.eq_iff_iff, inR_iff, beq_iff_eq, Bool.eq_iff_iff, decide_eq_true_eq, decide_eq_true_eq]
  unfold wr RowKit.wrap64 I64
  omega

theorem two_any (s : ByteArray) (a b : Int) (ha : I64 a) (hb : I64 b) (w : World) :
    Calls Tryd.prog 46 #[.string s, .int .i64 a, .int .i64 b] w fun e w' => e = .returned (.tuple #[.int .i64 (twoV s.data.toList a b).1, .bool (twoV s.data.toList a b).2]) ∧ w = w' := by
  have HT := Lib.hid (fun b W => truth_any b W)
  have HP := fun W => product_any a b ha hb W
  have HR := fun W => ratio_any s a b ha W
  rw [← Lib.toList_data] at HR ⊢
  obtain ⟨P1, hP1⟩ : ∃ R, wr (a * b) = R := ⟨_, rfl⟩
  obtain ⟨P2, hP2⟩ : ∃ R, inR (a * b) = R := ⟨_, rfl⟩
  rw [hP1, hP2] at HP
  obtain ⟨R1, hR1⟩ : ∃ R, (if b = 0 then 0 else if s.toList = [37] then a.tmod b else wr (a.tdiv b)) = R := ⟨_, rfl⟩
  obtain ⟨R2, hR2⟩ : ∃ R, (if b = 0 then false else if s.toList = [37] then true else inR (a.tdiv b)) = R := ⟨_, rfl⟩
  rw [hR1, hR2] at HR
  have HP := Lib.hid HP
  have HR := Lib.hid HR
  obtain ⟨V1, hV1⟩ : ∃ V, (twoV s.toList a b).1 = V := ⟨_, rfl⟩
  obtain ⟨V2, hV2⟩ : ∃ V, (twoV s.toList a b).2 = V := ⟨_, rfl⟩
  rw [hV1, hV2]
  have HV := Lib.hid (And.intro hV1 hV2)
  have HM := Lib.hid (fun (h : (s.toList == [42]) = true) => two_end (tv_mul h) hV1 hV2)
  simp only [hP1, hP2] at HM
  have HQ := Lib.hid (fun (h : (s.toList == [47]) = true) => two_end (tv_quo h) hV1 hV2)
  simp only [hR1, hR2] at HQ
  have HR2 := Lib.hid (fun (h : (s.toList == [37]) = true) => two_end (tv_rem h) hV1 hV2)
  simp only [hR1, hR2] at HR2
  have HS := Lib.hid (And.intro (sub_gt a b ha hb) (sub_lt a b ha hb))
  clear ha hb hP1 hP2 hR1 hR2 hV1 hV2
  go_enter Tryd.func46, Tryd.ntmps46
  go_wp2_with (first
    | (go_at_call 61; (with_reducible refine (HT.out _ _).mono ?_); rintro e w1 ⟨rfl, rfl⟩)
    | (go_at_call 62; (with_reducible refine (HP.out _).mono ?_); rintro e w1 ⟨rfl, rfl⟩)
    | (go_at_call 63; (with_reducible refine (HR.out _).mono ?_); rintro e w1 ⟨rfl, rfl⟩))
  all_goals
    go_ret2
    refine ⟨ret_two ?_ ?_, rfl⟩
  all_goals first
    | exact (HM.out (by assumption)).1
    | exact (HM.out (by assumption)).2
    | exact (HQ.out (by assumption)).1
    | exact (HQ.out (by assumption)).2
    | exact (HR2.out (by assumption)).1
    | exact (HR2.out (by assumption)).2
    | (rw [← HV.out.1, tv_add (by assumption)])
    | (rw [← HV.out.2, tv_add (by assumption)]; exact HS.out.1)
    | (rw [← HV.out.1, tv_sub (by assumption)])
    | (rw [← HV.out.2, tv_sub (by assumption)]; exact HS.out.2)
    | (rw [← HV.out.1, tv_lss (by assumption)])
    | (rw [← HV.out.2, tv_lss (by assumption)])
    | (rw [← HV.out.1, tv_leq (by assumption)])
    | (rw [← HV.out.2, tv_leq (by assumption)])
    | (rw [← HV.out.1, tv_gtr (by assumption)])
    | (rw [← HV.out.2, tv_gtr (by assumption)])
    | (rw [← HV.out.1, tv_geq (by assumption)])
    | (rw [← HV.out.2, tv_geq (by assumption)])
    | (rw [← HV.out.1, tv_eql (by assumption)]; rfl)
    | (rw [← HV.out.2, tv_eql (by assumption)])
    | (rw [← HV.out.1, tv_neq (by assumption) (by assumption) (by assumption) (by assumption) (by assumption) (by assumption) (by assumption) (by assumption) (by assumption) (by assumption)]; rfl)
    | (rw [← HV.out.2, tv_neq (by assumption) (by assumption) (by assumption) (by assumption) (by assumption) (by assumption) (by assumption) (by assumption) (by assumption) (by assumption)])
    | exact absurd (show (s.toList == [47]) = true by assumption) (by rw [show (s.toList == [47]) = false by assumption]; decide)
end Go.Proofs.YtlgbfhjbfolibaaDoor
