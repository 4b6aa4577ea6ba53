/-
  Proved: the statements' own expr. Conditions: it does so of sums; the reckoner lies in memory.
-/
import Derived.Test.YtlgbfhjbfolibaaDoorArProd
namespace Go.Proofs.YtlgbfhjbfolibaaDoor
open Go Go.RowKit ArMath GlyphMath

section
variable {vs : Vars} {r p q r2 : B} {a b : Int} {N : List Int} {S : List (B × Nat)} {m m2 : Bool} {t : B}
theorem no1 (h : lev (tokB p) ≤ 1) (h1 : [60, 61].isPrefixOf (skipB p) = false) (h2 : [62, 61].isPrefixOf (skipB p) = false) (h3 : [61, 61].isPrefixOf (skipB p) = false) (h4 : [33, 61].isPrefixOf (skipB p) = false) (h5 : [60].isPrefixOf (skipB p) = false) (h6 : [62].isPrefixOf (skipB p) = false) : lev (tokB p) = 0 := by
  by_cases h : lev (tokB p) = 1
  · rcases lev1 h with e | e | e | e | e | e
    · rw [pre_of e] at h5; cases h5
    · rw [pre_of e] at h1; cases h1
    · rw [pre_of e] at h6; cases h6
    · rw [pre_of e] at h2; cases h2
    · rw [pre_of e] at h3; cases h3
    · rw [pre_of e] at h4; cases h4
  · omega
theorem cmp2_tok {c : UInt8} (hK : skipB p = c :: 61 :: q) (hc : c = 60 ∨ c = 62 ∨ c = 61 ∨ c = 33) : tokB p = [c, 61] ∧ leftB p = q ∧ lev [c, 61] = 1 := by
  have : digC c = false ∧ firC c = false ∧ lev [c, 61] = 1 := by rcases hc with rfl | rfl | rfl | rfl <;> decide
  obtain ⟨h1, h2⟩ := tok_two hK this.1 this.2.1 (by rw [this.2.2]; decide)
  exact ⟨h1, h2, this.2.2⟩
theorem cmp1_tok {c : UInt8} (hK : skipB p = c :: q) (hc : c = 60 ∨ c = 62) (hq : [c, 61].isPrefixOf (skipB p) = false) : tokB p = [c] ∧ leftB p = q ∧ lev [c] = 1 := by
  have h0 : digC c = false ∧ firC c = false ∧ lev [c] = 1 := by rcases hc with rfl | rfl <;> decide
  have h3 : ∀ d, q.head? = some d → lev [c, d] = 0 := by
    intro d hd
    have : d ≠ 61 := by
      rintro rfl
      rw [hK] at hq
      cases q with
      | nil => cases hd
      | cons e s => cases hd; simp at hq
    rcases hc with rfl | rfl <;> simp [lev, this]
  obtain ⟨h1, h2⟩ := tok_one hK (beh_sign h0.1 h0.2.1 h3)
  exact ⟨h1, h2, h0.2.2⟩
theorem cmp_ok (hS : lastL S = 0) (ht : tokB p = t) (hq : leftB p = q) (h1 : lev t = 1) (hr : lev (tokB r2) ≤ 1)
    (h : runM vs q (a :: N) ((t, 1) :: S) m = contM vs r2 (b :: a :: N) ((t, 1) :: S) m2) : contM vs p (a :: N) S m = clM vs r2 ((twoV t a b).1 :: N) S (m2 || !(twoV t a b).2) := by
  rw [cont_op (by rw [ht, h1]; decide) (by rw [ht, h1, hS]; decide), ht, hq, h1, h]
  exact cont_shut1 hS hr
theorem cmp_no (hS : lastL S = 0) (ht : tokB p = t) (hq : leftB p = q) (h1 : lev t = 1)
    (h : runM vs q (a :: N) ((t, 1) :: S) m = none) : contM vs p (a :: N) S m = none := by
  rw [cont_op (by rw [ht, h1]; decide) (by rw [ht, h1, hS]; decide), ht, hq, h1, h]
theorem cl_skip : clM vs (skipB p) N S m = clM vs p N S m := by
  unfold clM
  rw [(tok_skip_skip p).1, (tok_skip_skip p).2]
/-- A comparison's number. -/
theorem cmp_two (t : B) (h : lev t = 1) (a b : Int) : (twoV t a b).2 = true ∧ (twoV t a b).1 = truV (if t = [60] then decide (a < b) else if t = [60, 61] then decide (a ≤ b) else if t = [62] then decide (b < a) else if t = [62, 61] then decide (b ≤ a) else if t = [61, 61] then decide (a = b) else !decide (a = b)) := by
  rcases lev1 h with rfl | rfl | rfl | rfl | rfl | rfl <;> simp [twoV]
end
section
variable {w : World} {X : Nat} {l r : B} {vv : Value} {f m : Bool} {vs : Vars} {n : Nat}
theorem tc60_61 : tx [60, 61] = ⟨#[60, 61]⟩ := rfl
theorem vtc60_61 (a b : Int) : twoV [60, 61] a b = (truV (decide (a ≤ b)), true) := by simp [twoV]
theorem tc62_61 : tx [62, 61] = ⟨#[62, 61]⟩ := rfl
theorem vtc62_61 (a b : Int) : twoV [62, 61] a b = (truV (decide (b ≤ a)), true) := by simp [twoV]
theorem tc61_61 : tx [61, 61] = ⟨#[61, 61]⟩ := rfl
theorem vtc61_61 (a b : Int) : twoV [61, 61] a b = (truV (decide (a = b)), true) := by simp [twoV]
theorem tc33_61 : tx [33, 61] = ⟨#[33, 61]⟩ := rfl
theorem vtc33_61 (a b : Int) : twoV [33, 61] a b = (truV (!decide (a = b)), true) := by simp [twoV]
theorem tc60 : tx [60] = ⟨#[60]⟩ := rfl
theorem vtc60 (a b : Int) : twoV [60] a b = (truV (decide (a < b)), true) := by simp [twoV]
theorem tc62 : tx [62] = ⟨#[62]⟩ := rfl
theorem vtc62 (a b : Int) : twoV [62] a b = (truV (decide (b < a)), true) := by simp [twoV]
set_option maxRecDepth 100000 in
set_option maxHeartbeats 4000000 in
theorem expr_ref (hl : l.length ≤ 2147483648) (hU : SAt vs l vv X n) : EAt vs l vv X n := by
  intro w r f m hn he h
  have HU0 := Lib.hid (hU w r f m hn he h)
  have HE := Lib.hid he
  have HS := Lib.hid (And.intro hl hn)
  have HUU := Lib.hid hU
  have HY := Lib.hid (fun (b : Bool) (W : World) => ryes_any b W)
  clear hl hU hn he h
  go_enter Tryd.func16, Tryd.ntmps16
  go_wp2_with (go_at_call 28; (with_reducible refine HU0.out.mono ?_); rintro e w1 ⟨a, p, fx, mx, rfl, hI, hle, hq, hb, hno, hok⟩; have HQ := Lib.hid hq; have HB := Lib.hid hb; have HA := Lib.hid (And.intro hI (And.intro hle (And.intro hno hok))); clear hI hle hq hb hno hok)
  obtain ⟨K, hK⟩ : ∃ K, skipB p = K := ⟨_, rfl⟩
  have hKK : skipB K = K := by rw [← hK, skip_skip]
  by_cases hno : fx = true ∨ ([60, 61].isPrefixOf K = false ∧ [62, 61].isPrefixOf K = false ∧ [61, 61].isPrefixOf K = false ∧ [33, 61].isPrefixOf K = false ∧ [60].isPrefixOf K = false ∧ [62].isPrefixOf K = false)
  · have hp : preB fx [60, 61] p = false ∧ preB fx [60, 61] K = false ∧ preB fx [62, 61] p = false ∧ preB fx [62, 61] K = false ∧ preB fx [61, 61] p = false ∧ preB fx [61, 61] K = false ∧ preB fx [33, 61] p = false ∧ preB fx [33, 61] K = false ∧ preB fx [60] p = false ∧ preB fx [60] K = false ∧ preB fx [62] p = false ∧ preB fx [62] K = false := by
      unfold preB
      rw [hKK, hK]
      rcases hno with rfl | hno
      · simp
      · simp [hno]
    have h0 := reat_no [60, 61] (by decide) HS.out.1 hp.1 HQ.out
    rw [hK, tc60_61] at h0
    have H0 := Lib.hid h0
    have h1 := fun (W : World) (hr : Rf W X l vv K fx mx) => reat_no [62, 61] (by decide) HS.out.1 hp.2.2.2.1 hr
    rw [hKK, tc62_61] at h1
    have H1 := Lib.hid h1
    have h2 := fun (W : World) (hr : Rf W X l vv K fx mx) => reat_no [61, 61] (by decide) HS.out.1 hp.2.2.2.2.2.1 hr
    rw [hKK, tc61_61] at h2
    have H2 := Lib.hid h2
    have h3 := fun (W : World) (hr : Rf W X l vv K fx mx) => reat_no [33, 61] (by decide) HS.out.1 hp.2.2.2.2.2.2.2.1 hr
    rw [hKK, tc33_61] at h3
    have H3 := Lib.hid h3
    have h4 := fun (W : World) (hr : Rf W X l vv K fx mx) => reat_no [60] (by decide) HS.out.1 hp.2.2.2.2.2.2.2.2.2.1 hr
    rw [hKK, tc60] at h4
    have H4 := Lib.hid h4
    have h5 := fun (W : World) (hr : Rf W X l vv K fx mx) => reat_no [62] (by decide) HS.out.1 hp.2.2.2.2.2.2.2.2.2.2.2 hr
    rw [hKK, tc62] at h5
    have H5 := Lib.hid h5
    have HNO := Lib.hid hno
    have HK := Lib.hid hK
    clear hno hp hK hKK h0 h1 h2 h3 h4 h5
    go_wp2_with (first
      | (go_at_call 29; (with_reducible refine (H0.out).mono ?_); rintro e w2 ⟨rfl, hq0, hb0⟩; have HQ1 := Lib.hid hq0; have HB1 := Lib.hid (HB.out.trans hb0); clear hq0 hb0)
      | (go_at_call 29; (with_reducible refine (H1.out _ HQ1.out).mono ?_); rintro e w3 ⟨rfl, hq1, hb1⟩; have HQ2 := Lib.hid hq1; have HB2 := Lib.hid (HB1.out.trans hb1); clear hq1 hb1)
      | (go_at_call 29; (with_reducible refine (H2.out _ HQ2.out).mono ?_); rintro e w4 ⟨rfl, hq2, hb2⟩; have HQ3 := Lib.hid hq2; have HB3 := Lib.hid (HB2.out.trans hb2); clear hq2 hb2)
      | (go_at_call 29; (with_reducible refine (H3.out _ HQ3.out).mono ?_); rintro e w5 ⟨rfl, hq3, hb3⟩; have HQ4 := Lib.hid hq3; have HB4 := Lib.hid (HB3.out.trans hb3); clear hq3 hb3)
      | (go_at_call 29; (with_reducible refine (H4.out _ HQ4.out).mono ?_); rintro e w6 ⟨rfl, hq4, hb4⟩; have HQ5 := Lib.hid hq4; have HB5 := Lib.hid (HB4.out.trans hb4); clear hq4 hb4)
      | (go_at_call 29; (with_reducible refine (H5.out _ HQ5.out).mono ?_); rintro e w7 ⟨rfl, hq5, hb5⟩; have HQ6 := Lib.hid hq5; have HB6 := Lib.hid (HB5.out.trans hb5); clear hq5 hb5))
    go_ret
    refine ⟨a, K, fx, mx, rfl, HA.out.1, ?_, HQ6.out, HB6.out, fun h1 h2 N S hS => HA.out.2.2.1 h1 h2 N S (by omega), fun hf => ?_⟩
    · rw [← HK.out]; exact Nat.le_trans (skip_len _) HA.out.2.1
    · have hh := HA.out.2.2.2 hf
      have hz := HNO.out.resolve_left (by rw [hf]; simp)
      refine ⟨hh.1, ?_, fun N S hS => ?_⟩
      · rw [← HK.out]; exact Nat.lt_of_le_of_lt (skip_len _) hh.2.1
      · rw [hh.2.2.2 N S (by omega), ← HK.out, cl_skip]
        exact cont_shut0 hS (no1 hh.2.2.1 (by rw [HK.out]; exact hz.1) (by rw [HK.out]; exact hz.2.1) (by rw [HK.out]; exact hz.2.2.1) (by rw [HK.out]; exact hz.2.2.2.1) (by rw [HK.out]; exact hz.2.2.2.2.1) (by rw [HK.out]; exact hz.2.2.2.2.2))
  · have hfx : fx = false := by
      cases fx with
      | true => exact absurd (Or.inl rfl) hno
      | false => rfl
    subst hfx
    by_cases k0 : [60, 61].isPrefixOf K = true
    · obtain ⟨q, hq⟩ : ∃ q, K = [60, 61] ++ q := by
        obtain ⟨q, hq⟩ := List.isPrefixOf_iff_prefix.1 k0
        exact ⟨q, hq.symm⟩
      have hlen := skip_len p
      rw [hK, hq] at hlen
      have hlq : q.length < p.length := by simp at hlen; omega
      have ht : tokB p = [60, 61] ∧ leftB p = q ∧ lev [60, 61] = 1 := cmp2_tok (by rw [hK, hq]; rfl) (by simp)
      have HT := Lib.hid ht
      have HL := Lib.hid hlq
      have HU := Lib.hid (fun (W : World) (hW : Below X w W) (hr : Rf W X l vv q false mx) => HUU.out W q false mx (by have := HS.out.2; have := HA.out.2.1; omega) (HE.out.step hW) hr)
      have h0 := reat_yes (q := q) [60, 61] (by decide) HS.out.1 (by rw [hK, hq]) HQ.out
      rw [tc60_61] at h0
      have H0 := Lib.hid h0
      clear hK hKK hno hlen hlq ht hq h0 k0
      go_wp2_with (first
        | (go_at_call 29; (with_reducible refine (H0.out).mono ?_); rintro e w2 ⟨rfl, hq0, hb0⟩; have HQ1 := Lib.hid hq0; have HB1 := Lib.hid (HB.out.trans hb0); clear hq0 hb0)
        | (go_at_call 28; (with_reducible refine (HU.out _ HB1.out HQ1.out).mono ?_); rintro e w10 ⟨b, r2, f2, m2, rfl, hI, hle, hq10, hb10, hno10, hok10⟩; have HR := Lib.hid (And.intro hle (And.intro hno10 hok10)); have HQ10 := Lib.hid hq10; have HB10 := Lib.hid (HB1.out.trans hb10); clear hI hle hq10 hb10 hno10 hok10)
        | (go_at_call 30; (with_reducible refine (HY.out _ _).mono ?_); rintro e w11 ⟨rfl, rfl⟩))
      go_ret
      refine ⟨truV (decide (a ≤ b)), r2, f2, m2, ?_, truV_I _, ?_, HQ10.out, HB10.out, ?_, ?_⟩
      · first | exact rfl | exact ret_int (by congr 1; done) | exact ret_int (by congr 1; rw [Bool.eq_iff_iff]; simp; done)
      · have := HR.out.1; have := HA.out.2.1; have := HL.out; omega
      · intro hf hff N S hS
        have hh := HA.out.2.2.2 (by simp)
        rw [hh.2.2.2 N S (by omega)]
        exact cmp_no hS HT.out.1 HT.out.2.1 HT.out.2.2 (HR.out.2.1 hf (by simp) _ _ (by show (1 : Nat) ≤ 1; omega))
      · intro hf
        have hh := HA.out.2.2.2 (by simp)
        have hu := (HR.out.2.2 hf).2
        refine ⟨hh.1, by have := hh.2.1; have := HR.out.1; have := HL.out; omega, fun N S hS => ?_⟩
        rw [hh.2.2.2 N S (by omega), cmp_ok hS HT.out.1 HT.out.2.1 HT.out.2.2 hu.2.1 (hu.2.2 _ _ (by show (1 : Nat) ≤ 1; omega)), vtc60_61]
        simp
    replace k0 : [60, 61].isPrefixOf K = false := Bool.eq_false_iff.2 k0
    by_cases k1 : [62, 61].isPrefixOf K = true
    · obtain ⟨q, hq⟩ : ∃ q, K = [62, 61] ++ q := by
        obtain ⟨q, hq⟩ := List.isPrefixOf_iff_prefix.1 k1
        exact ⟨q, hq.symm⟩
      have hlen := skip_len p
      rw [hK, hq] at hlen
      have hlq : q.length < p.length := by simp at hlen; omega
      have ht : tokB p = [62, 61] ∧ leftB p = q ∧ lev [62, 61] = 1 := cmp2_tok (by rw [hK, hq]; rfl) (by simp)
      have HT := Lib.hid ht
      have HL := Lib.hid hlq
      have HU := Lib.hid (fun (W : World) (hW : Below X w W) (hr : Rf W X l vv q false mx) => HUU.out W q false mx (by have := HS.out.2; have := HA.out.2.1; omega) (HE.out.step hW) hr)
      have h0 := reat_no [60, 61] (by decide) HS.out.1 (show preB false [60, 61] p = false by unfold preB; rw [hK, k0]; rfl) HQ.out
      rw [hK, tc60_61] at h0
      have H0 := Lib.hid h0
      have h1 := fun (W : World) (hr : Rf W X l vv K false mx) => reat_yes (q := q) [62, 61] (by decide) HS.out.1 (by rw [hKK, hq]) hr
      rw [tc62_61] at h1
      have H1 := Lib.hid h1
      clear hK hKK hno hlen hlq ht hq h0 h1 k0 k1
      go_wp2_with (first
        | (go_at_call 29; (with_reducible refine (H0.out).mono ?_); rintro e w2 ⟨rfl, hq0, hb0⟩; have HQ1 := Lib.hid hq0; have HB1 := Lib.hid (HB.out.trans hb0); clear hq0 hb0)
        | (go_at_call 29; (with_reducible refine (H1.out _ HQ1.out).mono ?_); rintro e w3 ⟨rfl, hq1, hb1⟩; have HQ2 := Lib.hid hq1; have HB2 := Lib.hid (HB1.out.trans hb1); clear hq1 hb1)
        | (go_at_call 28; (with_reducible refine (HU.out _ HB2.out HQ2.out).mono ?_); rintro e w10 ⟨b, r2, f2, m2, rfl, hI, hle, hq10, hb10, hno10, hok10⟩; have HR := Lib.hid (And.intro hle (And.intro hno10 hok10)); have HQ10 := Lib.hid hq10; have HB10 := Lib.hid (HB2.out.trans hb10); clear hI hle hq10 hb10 hno10 hok10)
        | (go_at_call 30; (with_reducible refine (HY.out _ _).mono ?_); rintro e w11 ⟨rfl, rfl⟩))
      go_ret
      refine ⟨truV (decide (b ≤ a)), r2, f2, m2, ?_, truV_I _, ?_, HQ10.out, HB10.out, ?_, ?_⟩
      · first | exact rfl | exact ret_int (by congr 1; done) | exact ret_int (by congr 1; rw [Bool.eq_iff_iff]; simp; done)
      · have := HR.out.1; have := HA.out.2.1; have := HL.out; omega
      · intro hf hff N S hS
        have hh := HA.out.2.2.2 (by simp)
        rw [hh.2.2.2 N S (by omega)]
        exact cmp_no hS HT.out.1 HT.out.2.1 HT.out.2.2 (HR.out.2.1 hf (by simp) _ _ (by show (1 : Nat) ≤ 1; omega))
      · intro hf
        have hh := HA.out.2.2.2 (by simp)
        have hu := (HR.out.2.2 hf).2
        refine ⟨hh.1, by have := hh.2.1; have := HR.out.1; have := HL.out; omega, fun N S hS => ?_⟩
        rw [hh.2.2.2 N S (by omega), cmp_ok hS HT.out.1 HT.out.2.1 HT.out.2.2 hu.2.1 (hu.2.2 _ _ (by show (1 : Nat) ≤ 1; omega)), vtc62_61]
        simp
    replace k1 : [62, 61].isPrefixOf K = false := Bool.eq_false_iff.2 k1
    by_cases k2 : [61, 61].isPrefixOf K = true
    · obtain ⟨q, hq⟩ : ∃ q, K = [61, 61] ++ q := by
        obtain ⟨q, hq⟩ := List.isPrefixOf_iff_prefix.1 k2
        exact ⟨q, hq.symm⟩
      have hlen := skip_len p
      rw [hK, hq] at hlen
      have hlq : q.length < p.length := by simp at hlen; omega
      have ht : tokB p = [61, 61] ∧ leftB p = q ∧ lev [61, 61] = 1 := cmp2_tok (by rw [hK, hq]; rfl) (by simp)
      have HT := Lib.hid ht
      have HL := Lib.hid hlq
      have HU := Lib.hid (fun (W : World) (hW : Below X w W) (hr : Rf W X l vv q false mx) => HUU.out W q false mx (by have := HS.out.2; have := HA.out.2.1; omega) (HE.out.step hW) hr)
      have h0 := reat_no [60, 61] (by decide) HS.out.1 (show preB false [60, 61] p = false by unfold preB; rw [hK, k0]; rfl) HQ.out
      rw [hK, tc60_61] at h0
      have H0 := Lib.hid h0
      have h1 := fun (W : World) (hr : Rf W X l vv K false mx) => reat_no [62, 61] (by decide) HS.out.1 (show preB false [62, 61] K = false by unfold preB; rw [hKK, k1]; rfl) hr
      rw [hKK, tc62_61] at h1
      have H1 := Lib.hid h1
      have h2 := fun (W : World) (hr : Rf W X l vv K false mx) => reat_yes (q := q) [61, 61] (by decide) HS.out.1 (by rw [hKK, hq]) hr
      rw [tc61_61] at h2
      have H2 := Lib.hid h2
      clear hK hKK hno hlen hlq ht hq h0 h1 h2 k0 k1 k2
      go_wp2_with (first
        | (go_at_call 29; (with_reducible refine (H0.out).mono ?_); rintro e w2 ⟨rfl, hq0, hb0⟩; have HQ1 := Lib.hid hq0; have HB1 := Lib.hid (HB.out.trans hb0); clear hq0 hb0)
        | (go_at_call 29; (with_reducible refine (H1.out _ HQ1.out).mono ?_); rintro e w3 ⟨rfl, hq1, hb1⟩; have HQ2 := Lib.hid hq1; have HB2 := Lib.hid (HB1.out.trans hb1); clear hq1 hb1)
        | (go_at_call 29; (with_reducible refine (H2.out _ HQ2.out).mono ?_); rintro e w4 ⟨rfl, hq2, hb2⟩; have HQ3 := Lib.hid hq2; have HB3 := Lib.hid (HB2.out.trans hb2); clear hq2 hb2)
        | (go_at_call 28; (with_reducible refine (HU.out _ HB3.out HQ3.out).mono ?_); rintro e w10 ⟨b, r2, f2, m2, rfl, hI, hle, hq10, hb10, hno10, hok10⟩; have HR := Lib.hid (And.intro hle (And.intro hno10 hok10)); have HQ10 := Lib.hid hq10; have HB10 := Lib.hid (HB3.out.trans hb10); clear hI hle hq10 hb10 hno10 hok10)
        | (go_at_call 30; (with_reducible refine (HY.out _ _).mono ?_); rintro e w11 ⟨rfl, rfl⟩))
      go_ret
      refine ⟨truV (decide (a = b)), r2, f2, m2, ?_, truV_I _, ?_, HQ10.out, HB10.out, ?_, ?_⟩
      · first | exact rfl | exact ret_int (by congr 1; done) | exact ret_int (by congr 1; rw [Bool.eq_iff_iff]; simp; done)
      · have := HR.out.1; have := HA.out.2.1; have := HL.out; omega
      · intro hf hff N S hS
        have hh := HA.out.2.2.2 (by simp)
        rw [hh.2.2.2 N S (by omega)]
        exact cmp_no hS HT.out.1 HT.out.2.1 HT.out.2.2 (HR.out.2.1 hf (by simp) _ _ (by show (1 : Nat) ≤ 1; omega))
      · intro hf
        have hh := HA.out.2.2.2 (by simp)
        have hu := (HR.out.2.2 hf).2
        refine ⟨hh.1, by have := hh.2.1; have := HR.out.1; have := HL.out; omega, fun N S hS => ?_⟩
        rw [hh.2.2.2 N S (by omega), cmp_ok hS HT.out.1 HT.out.2.1 HT.out.2.2 hu.2.1 (hu.2.2 _ _ (by show (1 : Nat) ≤ 1; omega)), vtc61_61]
        simp
    replace k2 : [61, 61].isPrefixOf K = false := Bool.eq_false_iff.2 k2
    by_cases k3 : [33, 61].isPrefixOf K = true
    · obtain ⟨q, hq⟩ : ∃ q, K = [33, 61] ++ q := by
        obtain ⟨q, hq⟩ := List.isPrefixOf_iff_prefix.1 k3
        exact ⟨q, hq.symm⟩
      have hlen := skip_len p
      rw [hK, hq] at hlen
      have hlq : q.length < p.length := by simp at hlen; omega
      have ht : tokB p = [33, 61] ∧ leftB p = q ∧ lev [33, 61] = 1 := cmp2_tok (by rw [hK, hq]; rfl) (by simp)
      have HT := Lib.hid ht
      have HL := Lib.hid hlq
      have HU := Lib.hid (fun (W : World) (hW : Below X w W) (hr : Rf W X l vv q false mx) => HUU.out W q false mx (by have := HS.out.2; have := HA.out.2.1; omega) (HE.out.step hW) hr)
      have h0 := reat_no [60, 61] (by decide) HS.out.1 (show preB false [60, 61] p = false by unfold preB; rw [hK, k0]; rfl) HQ.out
      rw [hK, tc60_61] at h0
      have H0 := Lib.hid h0
      have h1 := fun (W : World) (hr : Rf W X l vv K false mx) => reat_no [62, 61] (by decide) HS.out.1 (show preB false [62, 61] K = false by unfold preB; rw [hKK, k1]; rfl) hr
      rw [hKK, tc62_61] at h1
      have H1 := Lib.hid h1
      have h2 := fun (W : World) (hr : Rf W X l vv K false mx) => reat_no [61, 61] (by decide) HS.out.1 (show preB false [61, 61] K = false by unfold preB; rw [hKK, k2]; rfl) hr
      rw [hKK, tc61_61] at h2
      have H2 := Lib.hid h2
      have h3 := fun (W : World) (hr : Rf W X l vv K false mx) => reat_yes (q := q) [33, 61] (by decide) HS.out.1 (by rw [hKK, hq]) hr
      rw [tc33_61] at h3
      have H3 := Lib.hid h3
      clear hK hKK hno hlen hlq ht hq h0 h1 h2 h3 k0 k1 k2 k3
      go_wp2_with (first
        | (go_at_call 29; (with_reducible refine (H0.out).mono ?_); rintro e w2 ⟨rfl, hq0, hb0⟩; have HQ1 := Lib.hid hq0; have HB1 := Lib.hid (HB.out.trans hb0); clear hq0 hb0)
        | (go_at_call 29; (with_reducible refine (H1.out _ HQ1.out).mono ?_); rintro e w3 ⟨rfl, hq1, hb1⟩; have HQ2 := Lib.hid hq1; have HB2 := Lib.hid (HB1.out.trans hb1); clear hq1 hb1)
        | (go_at_call 29; (with_reducible refine (H2.out _ HQ2.out).mono ?_); rintro e w4 ⟨rfl, hq2, hb2⟩; have HQ3 := Lib.hid hq2; have HB3 := Lib.hid (HB2.out.trans hb2); clear hq2 hb2)
        | (go_at_call 29; (with_reducible refine (H3.out _ HQ3.out).mono ?_); rintro e w5 ⟨rfl, hq3, hb3⟩; have HQ4 := Lib.hid hq3; have HB4 := Lib.hid (HB3.out.trans hb3); clear hq3 hb3)
        | (go_at_call 28; (with_reducible refine (HU.out _ HB4.out HQ4.out).mono ?_); rintro e w10 ⟨b, r2, f2, m2, rfl, hI, hle, hq10, hb10, hno10, hok10⟩; have HR := Lib.hid (And.intro hle (And.intro hno10 hok10)); have HQ10 := Lib.hid hq10; have HB10 := Lib.hid (HB4.out.trans hb10); clear hI hle hq10 hb10 hno10 hok10)
        | (go_at_call 30; (with_reducible refine (HY.out _ _).mono ?_); rintro e w11 ⟨rfl, rfl⟩))
      go_ret
      refine ⟨truV (!decide (a = b)), r2, f2, m2, ?_, truV_I _, ?_, HQ10.out, HB10.out, ?_, ?_⟩
      · first | exact rfl | exact ret_int (by congr 1; done) | exact ret_int (by congr 1; rw [Bool.eq_iff_iff]; simp; done)
      · have := HR.out.1; have := HA.out.2.1; have := HL.out; omega
      · intro hf hff N S hS
        have hh := HA.out.2.2.2 (by simp)
        rw [hh.2.2.2 N S (by omega)]
        exact cmp_no hS HT.out.1 HT.out.2.1 HT.out.2.2 (HR.out.2.1 hf (by simp) _ _ (by show (1 : Nat) ≤ 1; omega))
      · intro hf
        have hh := HA.out.2.2.2 (by simp)
        have hu := (HR.out.2.2 hf).2
        refine ⟨hh.1, by have := hh.2.1; have := HR.out.1; have := HL.out; omega, fun N S hS => ?_⟩
        rw [hh.2.2.2 N S (by omega), cmp_ok hS HT.out.1 HT.out.2.1 HT.out.2.2 hu.2.1 (hu.2.2 _ _ (by show (1 : Nat) ≤ 1; omega)), vtc33_61]
        simp
    replace k3 : [33, 61].isPrefixOf K = false := Bool.eq_false_iff.2 k3
    by_cases k4 : [60].isPrefixOf K = true
    · obtain ⟨q, hq⟩ : ∃ q, K = [60] ++ q := by
        obtain ⟨q, hq⟩ := List.isPrefixOf_iff_prefix.1 k4
        exact ⟨q, hq.symm⟩
      have hlen := skip_len p
      rw [hK, hq] at hlen
      have hlq : q.length < p.length := by simp at hlen; omega
      have ht : tokB p = [60] ∧ leftB p = q ∧ lev [60] = 1 := cmp1_tok (by rw [hK, hq]; rfl) (by simp) (by rw [hK]; exact k0)
      have HT := Lib.hid ht
      have HL := Lib.hid hlq
      have HU := Lib.hid (fun (W : World) (hW : Below X w W) (hr : Rf W X l vv q false mx) => HUU.out W q false mx (by have := HS.out.2; have := HA.out.2.1; omega) (HE.out.step hW) hr)
      have h0 := reat_no [60, 61] (by decide) HS.out.1 (show preB false [60, 61] p = false by unfold preB; rw [hK, k0]; rfl) HQ.out
      rw [hK, tc60_61] at h0
      have H0 := Lib.hid h0
      have h1 := fun (W : World) (hr : Rf W X l vv K false mx) => reat_no [62, 61] (by decide) HS.out.1 (show preB false [62, 61] K = false by unfold preB; rw [hKK, k1]; rfl) hr
      rw [hKK, tc62_61] at h1
      have H1 := Lib.hid h1
      have h2 := fun (W : World) (hr : Rf W X l vv K false mx) => reat_no [61, 61] (by decide) HS.out.1 (show preB false [61, 61] K = false by unfold preB; rw [hKK, k2]; rfl) hr
      rw [hKK, tc61_61] at h2
      have H2 := Lib.hid h2
      have h3 := fun (W : World) (hr : Rf W X l vv K false mx) => reat_no [33, 61] (by decide) HS.out.1 (show preB false [33, 61] K = false by unfold preB; rw [hKK, k3]; rfl) hr
      rw [hKK, tc33_61] at h3
      have H3 := Lib.hid h3
      have h4 := fun (W : World) (hr : Rf W X l vv K false mx) => reat_yes (q := q) [60] (by decide) HS.out.1 (by rw [hKK, hq]) hr
      rw [tc60] at h4
      have H4 := Lib.hid h4
      clear hK hKK hno hlen hlq ht hq h0 h1 h2 h3 h4 k0 k1 k2 k3 k4
      go_wp2_with (first
        | (go_at_call 29; (with_reducible refine (H0.out).mono ?_); rintro e w2 ⟨rfl, hq0, hb0⟩; have HQ1 := Lib.hid hq0; have HB1 := Lib.hid (HB.out.trans hb0); clear hq0 hb0)
        | (go_at_call 29; (with_reducible refine (H1.out _ HQ1.out).mono ?_); rintro e w3 ⟨rfl, hq1, hb1⟩; have HQ2 := Lib.hid hq1; have HB2 := Lib.hid (HB1.out.trans hb1); clear hq1 hb1)
        | (go_at_call 29; (with_reducible refine (H2.out _ HQ2.out).mono ?_); rintro e w4 ⟨rfl, hq2, hb2⟩; have HQ3 := Lib.hid hq2; have HB3 := Lib.hid (HB2.out.trans hb2); clear hq2 hb2)
        | (go_at_call 29; (with_reducible refine (H3.out _ HQ3.out).mono ?_); rintro e w5 ⟨rfl, hq3, hb3⟩; have HQ4 := Lib.hid hq3; have HB4 := Lib.hid (HB3.out.trans hb3); clear hq3 hb3)
        | (go_at_call 29; (with_reducible refine (H4.out _ HQ4.out).mono ?_); rintro e w6 ⟨rfl, hq4, hb4⟩; have HQ5 := Lib.hid hq4; have HB5 := Lib.hid (HB4.out.trans hb4); clear hq4 hb4)
        | (go_at_call 28; (with_reducible refine (HU.out _ HB5.out HQ5.out).mono ?_); rintro e w10 ⟨b, r2, f2, m2, rfl, hI, hle, hq10, hb10, hno10, hok10⟩; have HR := Lib.hid (And.intro hle (And.intro hno10 hok10)); have HQ10 := Lib.hid hq10; have HB10 := Lib.hid (HB5.out.trans hb10); clear hI hle hq10 hb10 hno10 hok10)
        | (go_at_call 30; (with_reducible refine (HY.out _ _).mono ?_); rintro e w11 ⟨rfl, rfl⟩))
      go_ret
      refine ⟨truV (decide (a < b)), r2, f2, m2, ?_, truV_I _, ?_, HQ10.out, HB10.out, ?_, ?_⟩
      · first | exact rfl | exact ret_int (by congr 1; done) | exact ret_int (by congr 1; rw [Bool.eq_iff_iff]; simp; done)
      · have := HR.out.1; have := HA.out.2.1; have := HL.out; omega
      · intro hf hff N S hS
        have hh := HA.out.2.2.2 (by simp)
        rw [hh.2.2.2 N S (by omega)]
        exact cmp_no hS HT.out.1 HT.out.2.1 HT.out.2.2 (HR.out.2.1 hf (by simp) _ _ (by show (1 : Nat) ≤ 1; omega))
      · intro hf
        have hh := HA.out.2.2.2 (by simp)
        have hu := (HR.out.2.2 hf).2
        refine ⟨hh.1, by have := hh.2.1; have := HR.out.1; have := HL.out; omega, fun N S hS => ?_⟩
        rw [hh.2.2.2 N S (by omega), cmp_ok hS HT.out.1 HT.out.2.1 HT.out.2.2 hu.2.1 (hu.2.2 _ _ (by show (1 : Nat) ≤ 1; omega)), vtc60]
        simp
    replace k4 : [60].isPrefixOf K = false := Bool.eq_false_iff.2 k4
    by_cases k5 : [62].isPrefixOf K = true
    · obtain ⟨q, hq⟩ : ∃ q, K = [62] ++ q := by
        obtain ⟨q, hq⟩ := List.isPrefixOf_iff_prefix.1 k5
        exact ⟨q, hq.symm⟩
      have hlen := skip_len p
      rw [hK, hq] at hlen
      have hlq : q.length < p.length := by simp at hlen; omega
      have ht : tokB p = [62] ∧ leftB p = q ∧ lev [62] = 1 := cmp1_tok (by rw [hK, hq]; rfl) (by simp) (by rw [hK]; exact k1)
      have HT := Lib.hid ht
      have HL := Lib.hid hlq
      have HU := Lib.hid (fun (W : World) (hW : Below X w W) (hr : Rf W X l vv q false mx) => HUU.out W q false mx (by have := HS.out.2; have := HA.out.2.1; omega) (HE.out.step hW) hr)
      have h0 := reat_no [60, 61] (by decide) HS.out.1 (show preB false [60, 61] p = false by unfold preB; rw [hK, k0]; rfl) HQ.out
      rw [hK, tc60_61] at h0
      have H0 := Lib.hid h0
      have h1 := fun (W : World) (hr : Rf W X l vv K false mx) => reat_no [62, 61] (by decide) HS.out.1 (show preB false [62, 61] K = false by unfold preB; rw [hKK, k1]; rfl) hr
      rw [hKK, tc62_61] at h1
      have H1 := Lib.hid h1
      have h2 := fun (W : World) (hr : Rf W X l vv K false mx) => reat_no [61, 61] (by decide) HS.out.1 (show preB false [61, 61] K = false by unfold preB; rw [hKK, k2]; rfl) hr
      rw [hKK, tc61_61] at h2
      have H2 := Lib.hid h2
      have h3 := fun (W : World) (hr : Rf W X l vv K false mx) => reat_no [33, 61] (by decide) HS.out.1 (show preB false [33, 61] K = false by unfold preB; rw [hKK, k3]; rfl) hr
      rw [hKK, tc33_61] at h3
      have H3 := Lib.hid h3
      have h4 := fun (W : World) (hr : Rf W X l vv K false mx) => reat_no [60] (by decide) HS.out.1 (show preB false [60] K = false by unfold preB; rw [hKK, k4]; rfl) hr
      rw [hKK, tc60] at h4
      have H4 := Lib.hid h4
      have h5 := fun (W : World) (hr : Rf W X l vv K false mx) => reat_yes (q := q) [62] (by decide) HS.out.1 (by rw [hKK, hq]) hr
      rw [tc62] at h5
      have H5 := Lib.hid h5
      clear hK hKK hno hlen hlq ht hq h0 h1 h2 h3 h4 h5 k0 k1 k2 k3 k4 k5
      go_wp2_with (first
        | (go_at_call 29; (with_reducible refine (H0.out).mono ?_); rintro e w2 ⟨rfl, hq0, hb0⟩; have HQ1 := Lib.hid hq0; have HB1 := Lib.hid (HB.out.trans hb0); clear hq0 hb0)
        | (go_at_call 29; (with_reducible refine (H1.out _ HQ1.out).mono ?_); rintro e w3 ⟨rfl, hq1, hb1⟩; have HQ2 := Lib.hid hq1; have HB2 := Lib.hid (HB1.out.trans hb1); clear hq1 hb1)
        | (go_at_call 29; (with_reducible refine (H2.out _ HQ2.out).mono ?_); rintro e w4 ⟨rfl, hq2, hb2⟩; have HQ3 := Lib.hid hq2; have HB3 := Lib.hid (HB2.out.trans hb2); clear hq2 hb2)
        | (go_at_call 29; (with_reducible refine (H3.out _ HQ3.out).mono ?_); rintro e w5 ⟨rfl, hq3, hb3⟩; have HQ4 := Lib.hid hq3; have HB4 := Lib.hid (HB3.out.trans hb3); clear hq3 hb3)
        | (go_at_call 29; (with_reducible refine (H4.out _ HQ4.out).mono ?_); rintro e w6 ⟨rfl, hq4, hb4⟩; have HQ5 := Lib.hid hq4; have HB5 := Lib.hid (HB4.out.trans hb4); clear hq4 hb4)
        | (go_at_call 29; (with_reducible refine (H5.out _ HQ5.out).mono ?_); rintro e w7 ⟨rfl, hq5, hb5⟩; have HQ6 := Lib.hid hq5; have HB6 := Lib.hid (HB5.out.trans hb5); clear hq5 hb5)
        | (go_at_call 28; (with_reducible refine (HU.out _ HB6.out HQ6.out).mono ?_); rintro e w10 ⟨b, r2, f2, m2, rfl, hI, hle, hq10, hb10, hno10, hok10⟩; have HR := Lib.hid (And.intro hle (And.intro hno10 hok10)); have HQ10 := Lib.hid hq10; have HB10 := Lib.hid (HB6.out.trans hb10); clear hI hle hq10 hb10 hno10 hok10)
        | (go_at_call 30; (with_reducible refine (HY.out _ _).mono ?_); rintro e w11 ⟨rfl, rfl⟩))
      go_ret
      refine ⟨truV (decide (b < a)), r2, f2, m2, ?_, truV_I _, ?_, HQ10.out, HB10.out, ?_, ?_⟩
      · first | exact rfl | exact ret_int (by congr 1; done) | exact ret_int (by congr 1; rw [Bool.eq_iff_iff]; simp; done)
      · have := HR.out.1; have := HA.out.2.1; have := HL.out; omega
      · intro hf hff N S hS
        have hh := HA.out.2.2.2 (by simp)
        rw [hh.2.2.2 N S (by omega)]
        exact cmp_no hS HT.out.1 HT.out.2.1 HT.out.2.2 (HR.out.2.1 hf (by simp) _ _ (by show (1 : Nat) ≤ 1; omega))
      · intro hf
        have hh := HA.out.2.2.2 (by simp)
        have hu := (HR.out.2.2 hf).2
        refine ⟨hh.1, by have := hh.2.1; have := HR.out.1; have := HL.out; omega, fun N S hS => ?_⟩
        rw [hh.2.2.2 N S (by omega), cmp_ok hS HT.out.1 HT.out.2.1 HT.out.2.2 hu.2.1 (hu.2.2 _ _ (by show (1 : Nat) ≤ 1; omega)), vtc62]
        simp
    replace k5 : [62].isPrefixOf K = false := Bool.eq_false_iff.2 k5
    exact absurd (Or.inr ⟨k0, k1, k2, k3, k4, k5⟩) hno
end
end Go.Proofs.YtlgbfhjbfolibaaDoor
