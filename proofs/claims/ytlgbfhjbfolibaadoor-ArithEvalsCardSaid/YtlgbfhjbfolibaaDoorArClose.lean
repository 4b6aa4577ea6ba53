/-
  Proved: contracts of a reckoner's close, between. Conditions: it lies in memory; numbers enough wait.
-/
import Derived.Test.YtlgbfhjbfolibaaDoorArReck
namespace Go.Proofs.YtlgbfhjbfolibaaDoor
open Go Go.Shelf Go.RowKit ArMath

theorem reck_len (l : Nat) : ∀ (S : List (B × Nat)) (N : List Int) (b : Bool), (reck l S N b).1.length ≤ S.length ∧ (reck l S N b).2.1.length ≤ N.length
  | [], N, b => ⟨Nat.le_refl _, Nat.le_refl _⟩
  | (t, k) :: S, N, b => by
    unfold reck
    split
    · split
      · match N with
        | [] => exact ⟨Nat.le_refl _, Nat.le_refl _⟩
        | n :: N =>
          have := reck_len l S ((oneV t n).1 :: N) (b || !(oneV t n).2)
          simp only [List.length_cons] at this ⊢
          omega
      · match N with
        | [] => exact ⟨Nat.le_refl _, Nat.le_refl _⟩
        | [n] => exact ⟨Nat.le_refl _, Nat.le_refl _⟩
        | n :: m :: N =>
          have := reck_len l S ((twoV t m n).1 :: N) (b || !(twoV t m n).2)
          simp only [List.length_cons] at this ⊢
          omega
    · exact ⟨Nat.le_refl _, Nat.le_refl _⟩
theorem reck_bin (l : Nat) (h0 : 1 ≤ l) : ∀ (S : List (B × Nat)) (N : List Int) (b : Bool), binN S + 1 ≤ N.length → binN (reck l S N b).1 + 1 ≤ (reck l S N b).2.1.length
  | [], N, b, h => h
  | (t, k) :: S, N, b, h => by
    by_cases hk : l ≤ k
    · by_cases h4 : k = 4
      · subst h4
        match N, h with
        | n :: N, h =>
          rw [reck_one hk]
          exact reck_bin l h0 S _ _ (by simp [binN] at h ⊢; omega)
      · rw [binN_two h4 (by omega)] at h
        match N, h with
        | [n], h => simp at h
        | n :: m :: N, h =>
          rw [reck_two hk h4]
          exact reck_bin l h0 S _ _ (by simp at h ⊢; omega)
    · rw [reck_stop (show ¬ l ≤ lastL ((t, k) :: S) from hk)]; exact h
section
variable {w : World} {X : Nat} {vs : Vars} {vv mm nn ss : Value} {s : St}
/-- How many signs wait. -/
theorem signs_len (h : Rk w X vs vv mm nn ss s) : ∃ p c, ss = .slice p s.signs.length c := by
  rcases h.rws.signs.2 with ⟨hv, h0⟩ | ⟨g, cap, cur, hv, _⟩
  · exact ⟨none, 0, by rw [hv, h0]⟩
  · exact ⟨_, _, hv⟩
theorem int_eq0 (n : Nat) : ((n : Int) == 0) = decide (n = 0) := by
  rw [Bool.eq_iff_iff]; simp
set_option maxRecDepth 8000 in
theorem close_any (hb : binN s.signs + 1 ≤ s.nums.length) (hl : s.nums.length ≤ 20000) (h : Rk w X vs vv mm nn ss s) :
    Calls Tryd.prog 25 #[.pointer (some ⟨X, 0, none⟩)] w fun e w' => e = .returned (.bool (decide ((s.reck 1).signs ≠ []))) ∧ Below X w w' ∧ ∀ t k S, (s.reck 1).signs = (t, k) :: S → ∃ nn' ss', Rk w' X vs vv mm nn' ss' { s.reck 1 with signs := S } := by
  have HH := Lib.hid h
  have HC := Lib.hid (And.intro hb hl)
  clear h hb hl
  obtain ⟨S, hS⟩ : ∃ S, (s.reck 1).signs = S := ⟨_, rfl⟩
  have HS := Lib.hid hS
  rw [hS]
  clear hS
  cases S with
  | nil =>
    go_enter Tryd.func25, Tryd.ntmps25
    go_wp2_with (first
      | (go_at_call 26; (refine (reckon_any 1 (by decide) (by decide) HC.out.1 HC.out.2 HH.out).mono ?_); rintro e w1 ⟨rfl, ⟨n1, s1, hk1⟩, hb1⟩; obtain ⟨p1, c1, rfl⟩ := signs_len hk1; obtain ⟨-, -, -, -, c4, -, -⟩ := ar_cell hk1.blk; rw [HS.out, List.length_nil] at c4; have HB1 := Lib.hid hb1; clear hk1 hb1))
    go_ret
    exact ⟨rfl, HB1.out, fun t k S h => by cases h⟩
  | cons tk S =>
    obtain ⟨t, k⟩ := tk
    obtain ⟨M, hM⟩ : ∃ M, S.length + 1 = M := ⟨_, rfl⟩
    have HM := Lib.hid (show ((t, k) :: S).length = M from hM)
    have hM0 : ((M : Int) == 0) = false := by rw [int_eq0]; simp; omega
    clear hM
    go_enter Tryd.func25, Tryd.ntmps25
    go_wp2_with (first
      | (go_at_call 26; (refine (reckon_any 1 (by decide) (by decide) HC.out.1 HC.out.2 HH.out).mono ?_); rintro e w1 ⟨rfl, ⟨n1, s1, hk1⟩, hb1⟩; obtain ⟨p1, c1, rfl⟩ := signs_len hk1; obtain ⟨-, -, -, -, c4, -, -⟩ := ar_cell hk1.blk; rw [HS.out, HM.out] at c4; have HB1 := Lib.hid hb1; have HK1 := Lib.hid hk1; clear hk1 hb1)
      | (go_at_call 43; (refine (pop_any HK1.out HS.out).mono ?_); rintro e w2 ⟨rfl, ⟨ss2, hk2⟩, hb2⟩; have HK2 := Lib.hid hk2; have HB2 := Lib.hid (HB1.out.trans hb2); clear hk2 hb2))
    go_ret
    exact ⟨rfl, HB2.out, fun t' k' S' h => by cases h; exact ⟨_, _, HK2.out⟩⟩
theorem lev_le (t : B) : lev t ≤ 3 := by
  unfold lev
  split
  · decide
  split
  · decide
  split <;> decide
set_option maxRecDepth 8000 in
theorem between_any (t : B) (hb : binN s.signs + 1 ≤ s.nums.length) (hl : s.nums.length ≤ 20000) (hs : s.signs.length ≤ 20000) (h : Rk w X vs vv mm nn ss s) :
    Calls Tryd.prog 27 #[.pointer (some ⟨X, 0, none⟩), .string (tx t)] w fun e w' => e = .returned (.bool (decide (lev t ≠ 0) && decide (lastL (s.reck (max (lev t) 2)).signs ≠ lev t))) ∧ Below X w w' ∧ (lev t ≠ 0 → lastL (s.reck (max (lev t) 2)).signs ≠ lev t → ∃ nn' ss', Rk w' X vs vv mm nn' ss' ((s.reck (max (lev t) 2)).wait t (lev t))) := by
  have HH := Lib.hid h
  have HC := Lib.hid (And.intro hb hl)
  have HSL := Lib.hid (show (s.reck (max (lev t) 2)).signs.length ≤ 20000 from Nat.le_trans (reck_len _ _ _ _).1 hs)
  have HV := Lib.hid (fun W => level_any (tx t) W)
  rw [tx_list] at HV
  have HB0 := Lib.hid (show Below X w w from ⟨rfl, rfl, rfl, Nat.le_refl _, fun _ _ => rfl⟩)
  have h3 := lev_le t
  clear h hb hl hs
  obtain ⟨T, hT⟩ : ∃ T, tx t = T := ⟨_, rfl⟩
  rw [hT] at HV ⊢
  have HTT := Lib.hid hT
  clear hT
  obtain ⟨L, hL⟩ : ∃ L, lev t = L := ⟨_, rfl⟩
  rw [hL] at h3 HV HSL ⊢
  have HLL := Lib.hid hL
  clear hL
  have h4 : L = 0 ∨ L = 1 ∨ L = 2 ∨ L = 3 := by omega
  clear h3
  rcases h4 with rfl | rfl | rfl | rfl
  · go_enter Tryd.func27, Tryd.ntmps27
    go_wp2_with (first
      | (go_at_call 47; (with_reducible refine (HV.out _).mono ?_); rintro e w1 ⟨rfl, rfl⟩))
    go_ret
    exact ⟨rfl, HB0.out, fun h => absurd rfl h⟩
  · have HSQ := Lib.hid (show (s.reck 2).signs.length ≤ 20000 from HSL.out)
    show Calls _ _ _ _ fun e w' => e = .returned (.bool (true && decide (lastL (s.reck 2).signs ≠ 1))) ∧ Below X w w' ∧ ((1 : Nat) ≠ 0 → lastL (s.reck 2).signs ≠ 1 → ∃ nn' ss', Rk w' X vs vv mm nn' ss' ((s.reck 2).wait t 1))
    obtain ⟨Z, hZ⟩ : ∃ Z, lastL (s.reck 2).signs = Z := ⟨_, rfl⟩
    have HZ := Lib.hid hZ
    rw [hZ]
    clear hZ
    by_cases hz : Z = 1
    · have hzI : ((Z : Int) == 1) = true := by simpa using (show (Z : Int) = 1 by omega)
      have HZL := Lib.hid hz
      clear hz
      go_enter Tryd.func27, Tryd.ntmps27
      go_wp2_with (first
        | (go_at_call 47; (with_reducible refine (HV.out _).mono ?_); rintro e w1 ⟨rfl, rfl⟩)
        | (go_at_call 26; (refine (reckon_any 2 (by decide) (by decide) HC.out.1 HC.out.2 HH.out).mono ?_); rintro e w1 ⟨rfl, ⟨n1, s1, hk1⟩, hb1⟩; have HB1 := Lib.hid hb1; have HK1 := Lib.hid hk1; clear hk1 hb1)
        | (go_at_call 44; (refine (last_any HK1.out).mono ?_); rintro e w2 ⟨rfl, hb2⟩; rw [HZ.out]; have HB2 := Lib.hid (HB1.out.trans (hb2.mono (by have := HK1.out.lt; omega))); clear hb2))
      go_ret
      exact ⟨ret_bool (by rw [HZL.out]; rfl), HB2.out, fun _ h => absurd HZL.out h⟩
    · have hzI : ((Z : Int) == 1) = false := by simpa using (show ¬ (Z : Int) = 1 by omega)
      have HZL := Lib.hid hz
      clear hz
      go_enter Tryd.func27, Tryd.ntmps27
      go_wp2_with (first
        | (go_at_call 47; (with_reducible refine (HV.out _).mono ?_); rintro e w1 ⟨rfl, rfl⟩)
        | (go_at_call 26; (refine (reckon_any 2 (by decide) (by decide) HC.out.1 HC.out.2 HH.out).mono ?_); rintro e w1 ⟨rfl, ⟨n1, s1, hk1⟩, hb1⟩; have HB1 := Lib.hid hb1; have HK1 := Lib.hid hk1; clear hk1 hb1)
        | (go_at_call 44; (refine (last_any HK1.out).mono ?_); rintro e w2 ⟨rfl, hb2⟩; rw [HZ.out]; have HB2 := Lib.hid (HB1.out.trans (hb2.mono (by have := HK1.out.lt; omega))); have HK2 := Lib.hid (HK1.out.new hb2); clear hb2)
        | (go_at_call 35; (rw [← HTT.out]; refine (wait_any t 1 HSQ.out HK2.out).mono ?_); rintro e w3 ⟨rfl, ⟨s3, hk3⟩, hb3⟩; have HB3 := Lib.hid (HB2.out.trans hb3); have HK3 := Lib.hid hk3; clear hk3 hb3))
      go_ret
      exact ⟨ret_bool (by rw [decide_eq_true (show Z ≠ 1 from HZL.out)]; rfl), HB3.out, fun _ _ => ⟨_, _, HK3.out⟩⟩
  · have HSQ := Lib.hid (show (s.reck 2).signs.length ≤ 20000 from HSL.out)
    show Calls _ _ _ _ fun e w' => e = .returned (.bool (true && decide (lastL (s.reck 2).signs ≠ 2))) ∧ Below X w w' ∧ ((2 : Nat) ≠ 0 → lastL (s.reck 2).signs ≠ 2 → ∃ nn' ss', Rk w' X vs vv mm nn' ss' ((s.reck 2).wait t 2))
    obtain ⟨Z, hZ⟩ : ∃ Z, lastL (s.reck 2).signs = Z := ⟨_, rfl⟩
    have HZ := Lib.hid hZ
    rw [hZ]
    clear hZ
    by_cases hz : Z = 2
    · have hzI : ((Z : Int) == 2) = true := by simpa using (show (Z : Int) = 2 by omega)
      have HZL := Lib.hid hz
      clear hz
      go_enter Tryd.func27, Tryd.ntmps27
      go_wp2_with (first
        | (go_at_call 47; (with_reducible refine (HV.out _).mono ?_); rintro e w1 ⟨rfl, rfl⟩)
        | (go_at_call 26; (refine (reckon_any 2 (by decide) (by decide) HC.out.1 HC.out.2 HH.out).mono ?_); rintro e w1 ⟨rfl, ⟨n1, s1, hk1⟩, hb1⟩; have HB1 := Lib.hid hb1; have HK1 := Lib.hid hk1; clear hk1 hb1)
        | (go_at_call 44; (refine (last_any HK1.out).mono ?_); rintro e w2 ⟨rfl, hb2⟩; rw [HZ.out]; have HB2 := Lib.hid (HB1.out.trans (hb2.mono (by have := HK1.out.lt; omega))); clear hb2))
      go_ret
      exact ⟨ret_bool (by rw [HZL.out]; rfl), HB2.out, fun _ h => absurd HZL.out h⟩
    · have hzI : ((Z : Int) == 2) = false := by simpa using (show ¬ (Z : Int) = 2 by omega)
      have HZL := Lib.hid hz
      clear hz
      go_enter Tryd.func27, Tryd.ntmps27
      go_wp2_with (first
        | (go_at_call 47; (with_reducible refine (HV.out _).mono ?_); rintro e w1 ⟨rfl, rfl⟩)
        | (go_at_call 26; (refine (reckon_any 2 (by decide) (by decide) HC.out.1 HC.out.2 HH.out).mono ?_); rintro e w1 ⟨rfl, ⟨n1, s1, hk1⟩, hb1⟩; have HB1 := Lib.hid hb1; have HK1 := Lib.hid hk1; clear hk1 hb1)
        | (go_at_call 44; (refine (last_any HK1.out).mono ?_); rintro e w2 ⟨rfl, hb2⟩; rw [HZ.out]; have HB2 := Lib.hid (HB1.out.trans (hb2.mono (by have := HK1.out.lt; omega))); have HK2 := Lib.hid (HK1.out.new hb2); clear hb2)
        | (go_at_call 35; (rw [← HTT.out]; refine (wait_any t 2 HSQ.out HK2.out).mono ?_); rintro e w3 ⟨rfl, ⟨s3, hk3⟩, hb3⟩; have HB3 := Lib.hid (HB2.out.trans hb3); have HK3 := Lib.hid hk3; clear hk3 hb3))
      go_ret
      exact ⟨ret_bool (by rw [decide_eq_true (show Z ≠ 2 from HZL.out)]; rfl), HB3.out, fun _ _ => ⟨_, _, HK3.out⟩⟩
  · have HSQ := Lib.hid (show (s.reck 3).signs.length ≤ 20000 from HSL.out)
    show Calls _ _ _ _ fun e w' => e = .returned (.bool (true && decide (lastL (s.reck 3).signs ≠ 3))) ∧ Below X w w' ∧ ((3 : Nat) ≠ 0 → lastL (s.reck 3).signs ≠ 3 → ∃ nn' ss', Rk w' X vs vv mm nn' ss' ((s.reck 3).wait t 3))
    obtain ⟨Z, hZ⟩ : ∃ Z, lastL (s.reck 3).signs = Z := ⟨_, rfl⟩
    have HZ := Lib.hid hZ
    rw [hZ]
    clear hZ
    by_cases hz : Z = 3
    · have hzI : ((Z : Int) == 3) = true := by simpa using (show (Z : Int) = 3 by omega)
      have HZL := Lib.hid hz
      clear hz
      go_enter Tryd.func27, Tryd.ntmps27
      go_wp2_with (first
        | (go_at_call 47; (with_reducible refine (HV.out _).mono ?_); rintro e w1 ⟨rfl, rfl⟩)
        | (go_at_call 26; (refine (reckon_any 3 (by decide) (by decide) HC.out.1 HC.out.2 HH.out).mono ?_); rintro e w1 ⟨rfl, ⟨n1, s1, hk1⟩, hb1⟩; have HB1 := Lib.hid hb1; have HK1 := Lib.hid hk1; clear hk1 hb1)
        | (go_at_call 44; (refine (last_any HK1.out).mono ?_); rintro e w2 ⟨rfl, hb2⟩; rw [HZ.out]; have HB2 := Lib.hid (HB1.out.trans (hb2.mono (by have := HK1.out.lt; omega))); clear hb2))
      go_ret
      exact ⟨ret_bool (by rw [HZL.out]; rfl), HB2.out, fun _ h => absurd HZL.out h⟩
    · have hzI : ((Z : Int) == 3) = false := by simpa using (show ¬ (Z : Int) = 3 by omega)
      have HZL := Lib.hid hz
      clear hz
      go_enter Tryd.func27, Tryd.ntmps27
      go_wp2_with (first
        | (go_at_call 47; (with_reducible refine (HV.out _).mono ?_); rintro e w1 ⟨rfl, rfl⟩)
        | (go_at_call 26; (refine (reckon_any 3 (by decide) (by decide) HC.out.1 HC.out.2 HH.out).mono ?_); rintro e w1 ⟨rfl, ⟨n1, s1, hk1⟩, hb1⟩; have HB1 := Lib.hid hb1; have HK1 := Lib.hid hk1; clear hk1 hb1)
        | (go_at_call 44; (refine (last_any HK1.out).mono ?_); rintro e w2 ⟨rfl, hb2⟩; rw [HZ.out]; have HB2 := Lib.hid (HB1.out.trans (hb2.mono (by have := HK1.out.lt; omega))); have HK2 := Lib.hid (HK1.out.new hb2); clear hb2)
        | (go_at_call 35; (rw [← HTT.out]; refine (wait_any t 3 HSQ.out HK2.out).mono ?_); rintro e w3 ⟨rfl, ⟨s3, hk3⟩, hb3⟩; have HB3 := Lib.hid (HB2.out.trans hb3); have HK3 := Lib.hid hk3; clear hk3 hb3))
      go_ret
      exact ⟨ret_bool (by rw [decide_eq_true (show Z ≠ 3 from HZL.out)]; rfl), HB3.out, fun _ _ => ⟨_, _, HK3.out⟩⟩
end
end Go.Proofs.YtlgbfhjbfolibaaDoor
