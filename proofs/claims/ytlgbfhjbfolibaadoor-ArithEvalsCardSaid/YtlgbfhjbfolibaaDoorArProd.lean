/-
  Proved: the statements' own prod. Conditions: it does so of what it is made of; the reckoner lies in memory.
-/
import Derived.Test.YtlgbfhjbfolibaaDoorArDesc
namespace Go.Proofs.YtlgbfhjbfolibaaDoor
open Go Go.RowKit ArMath GlyphMath

section
variable {w : World} {X : Nat} {l r : B} {vv : Value} {f m : Bool} {vs : Vars} {n : Nat}
/-- prod, where less than n is left. -/
def PAt (vs : Vars) (l : B) (vv : Value) (X n : Nat) : Prop := ∀ (w : World) (r : B) (f m : Bool), r.length < n → Env w X vv vs → Rf w X l vv r f m →
  Calls Tryd.prog 48 #[.pointer (some ⟨X, 0, none⟩)] w fun e w' => Res w X l vv r f (POk vs r m) (PNo vs r m) e w'
/-- Where its loop stands. -/
def ProdSt (vs : Vars) (w : World) (X : Nat) (l : B) (vv : Value) (r : B) (f m : Bool) (a : Int) (p : B) (fx mx : Bool) (wx : World) : Prop :=
  Rf wx X l vv p fx mx ∧ Below X w wx ∧ I64 a ∧ p.length ≤ r.length ∧ (fx = true → f = false → PNo vs r m) ∧ (fx = false → f = false ∧ p.length < r.length ∧ ∀ N S, lastL S ≤ 2 → runM vs r N S m = contM vs p (a :: N) S mx)
theorem tx42 : tx [42] = ⟨#[42]⟩ := rfl
theorem tx47 : tx [47] = ⟨#[47]⟩ := rfl
theorem tx37 : tx [37] = ⟨#[37]⟩ := rfl
set_option maxRecDepth 100000 in
set_option maxHeartbeats 4000000 in
theorem prod_any (hl : l.length ≤ 2147483648) (hU : UAt vs l vv X n) : PAt vs l vv X n := by
  intro w r f m hn he h
  have HU0 := Lib.hid (hU w r f m hn he h)
  have HE := Lib.hid he
  have HS := Lib.hid (And.intro hl hn)
  have HUU := Lib.hid hU
  clear hl hU hn he h
  go_enter Tryd.func48, Tryd.ntmps48
  go_wp2_with (go_at_call 64; (with_reducible refine HU0.out.mono ?_); rintro e w1 ⟨a, p, fx, mx, rfl, hI, hle, hq, hb, hno, hok⟩; have HST := Lib.hid (show ProdSt vs w X l vv r f m a p fx mx w1 from ⟨hq, hb, hI, hle, fun h1 h2 N S _ => hno h1 h2 N S, fun h1 => ⟨(hok h1).1, (hok h1).2.1, fun N S _ => (hok h1).2.2.2 N S⟩⟩); clear hI hle hq hb hno hok)
  go_loopg [3] (r.length) (fun gf s3 wx => ∃ a, s3 = .int .i64 a ∧ Hid (∃ p fx mx, ProdSt vs w X l vv r f m a p fx mx wx ∧ p.length ≤ gf))
  case atStart => exact ⟨a, rfl, Lib.hid ⟨p, fx, mx, HST.out, HST.out.2.2.2.1⟩⟩
  case round =>
    clear HST
    obtain ⟨a, rfl, hrel⟩ := hrel
    obtain ⟨p, fx, mx, hst, hg⟩ := hrel.out
    have HST := Lib.hid hst
    have HQ := Lib.hid hst.1
    have HB := Lib.hid hst.2.1
    have HA := Lib.hid hst.2.2.1
    clear hst hrel
    obtain ⟨K, hK⟩ : ∃ K, skipB p = K := ⟨_, rfl⟩
    have hKK : skipB K = K := by rw [← hK, skip_skip]
    by_cases hno : fx = true ∨ ([42].isPrefixOf K = false ∧ [47].isPrefixOf K = false ∧ [37].isPrefixOf K = false)
    · have hp : preB fx [42] p = false ∧ preB fx [42] K = false ∧ preB fx [47] p = false ∧ preB fx [47] K = false ∧ preB fx [37] p = false ∧ preB fx [37] K = false := by
        unfold preB
        rw [hKK, hK]
        rcases hno with rfl | hno
        · simp
        · simp [hno]
      have h0 := reat_no [42] (by decide) HS.out.1 hp.1 HQ.out
      rw [hK, tx42] at h0
      have H0 := Lib.hid h0
      have h1 := fun (W : World) (hr : Rf W X l vv K fx mx) => reat_no [47] (by decide) HS.out.1 hp.2.2.2.1 hr
      rw [hKK, tx47] at h1
      have H1 := Lib.hid h1
      have h2 := fun (W : World) (hr : Rf W X l vv K fx mx) => reat_no [37] (by decide) HS.out.1 hp.2.2.2.2.2 hr
      rw [hKK, tx37] at h2
      have H2 := Lib.hid h2
      have HNO := Lib.hid hno
      have HK := Lib.hid hK
      clear hno hp hK hKK hg h0 h1 h2
      go_wp2_with (first
        | (go_at_call 29; (with_reducible refine (H0.out).mono ?_); rintro e w2 ⟨rfl, hq0, hb0⟩; have HQ1 := Lib.hid hq0; have HB1 := Lib.hid (HB.out.trans hb0); clear hq0 hb0)
        | (go_at_call 29; (with_reducible refine (H1.out _ HQ1.out).mono ?_); rintro e w3 ⟨rfl, hq1, hb1⟩; have HQ2 := Lib.hid hq1; have HB2 := Lib.hid (HB1.out.trans hb1); clear hq1 hb1)
        | (go_at_call 29; (with_reducible refine (H2.out _ HQ2.out).mono ?_); rintro e w4 ⟨rfl, hq2, hb2⟩; have HQ3 := Lib.hid hq2; have HB3 := Lib.hid (HB2.out.trans hb2); clear hq2 hb2))
      go_ret
      refine ⟨a, K, fx, mx, rfl, HA.out, ?_, HQ3.out, HB3.out, HST.out.2.2.2.2.1, fun hf => ?_⟩
      · rw [← HK.out]; exact Nat.le_trans (skip_len _) HST.out.2.2.2.1
      · have hh := HST.out.2.2.2.2.2 hf
        have hz := HNO.out.resolve_left (by rw [hf]; simp)
        refine ⟨hh.1, ?_, ?_, fun N S hS => ?_⟩
        · rw [← HK.out]; exact Nat.lt_of_le_of_lt (skip_len _) hh.2.1
        · rw [← HK.out]; exact no3 (by rw [skip_skip, HK.out]; exact hz.1) (by rw [skip_skip, HK.out]; exact hz.2.1) (by rw [skip_skip, HK.out]; exact hz.2.2)
        · rw [hh.2.2 N S hS, ← HK.out, cont_skip]
    · have hfx : fx = false := by
        cases fx with
        | true => exact absurd (Or.inl rfl) hno
        | false => rfl
      subst hfx
      obtain ⟨c, q, hcq, hc⟩ : ∃ c q, K = c :: q ∧ (c = 42 ∨ c = 47 ∨ c = 37) := by
        cases K with
        | nil => exact absurd (Or.inr (by decide)) hno
        | cons c q =>
          refine ⟨c, q, rfl, ?_⟩
          by_cases hc : c = 42 ∨ c = 47 ∨ c = 37
          · exact hc
          · refine absurd (Or.inr ?_) hno
            simp only [not_or] at hc
            have z : ∀ t : UInt8, c ≠ t → [t].isPrefixOf (c :: q) = false := by
              intro t ht
              have h8 : (t == c) = false := by simpa using (fun e => ht e.symm)
              show (t == c && _) = false
              rw [h8]; rfl
            exact ⟨z 42 hc.1, z 47 hc.2.1, z 37 hc.2.2⟩
      subst hcq
      clear hno
      have hlen := skip_len p
      rw [hK] at hlen
      obtain ⟨g', rfl⟩ : ∃ g', gk = g' + 1 := ⟨gk - 1, by simp at hlen; omega⟩
      have hlq : q.length < p.length := by simp at hlen; omega
      have HL := Lib.hid (And.intro hlq hg)
      have HU := Lib.hid (fun (W : World) (hW : Below X w W) (hr : Rf W X l vv q false mx) => HUU.out W q false mx (by have := HS.out.2; have := HST.out.2.2.2.1; omega) (HE.out.step hW) hr)
      have HK := Lib.hid hK
      rcases hc with rfl | rfl | rfl
      · have h0 := reat_yes (q := q) [42] (by decide) HS.out.1 hK HQ.out
        rw [tx42] at h0
        have H0 := Lib.hid h0
        clear hK hKK hlen hlq hg h0
        go_wp2_with (first
          | (go_at_call 29; (with_reducible refine (H0.out).mono ?_); rintro e w2 ⟨rfl, hq0, hb0⟩; have HQ1 := Lib.hid hq0; have HB1 := Lib.hid (HB.out.trans hb0); clear hq0 hb0)
          | (go_at_call 64; (with_reducible refine (HU.out _ HB1.out HQ1.out).mono ?_); rintro e w6 ⟨b, r2, f2, m2, rfl, hI, hle, hq6, hb6, hno6, hok6⟩; have HR := Lib.hid (And.intro hI (And.intro hle (And.intro hno6 hok6))); have HQ6 := Lib.hid hq6; have HB6 := Lib.hid (HB1.out.trans hb6); clear hI hle hq6 hb6 hno6 hok6)
          | (go_at_call 65; (with_reducible refine (rmul_any a b HA.out HR.out.1 HQ6.out).mono ?_); rintro e w7 ⟨rfl, hq7, hb7⟩; have HQ7 := Lib.hid hq7; have HB7 := Lib.hid (HB6.out.trans hb7); clear hq7 hb7))
        go_roundg g'
        case rel =>
          refine ⟨ArMath.wr (a * b), by rfl, Lib.hid ⟨r2, f2, _, ⟨HQ7.out, HB7.out, wr_I _, ?_, ?_, ?_⟩, ?_⟩⟩
          · have := HST.out.2.2.2.1; have := HR.out.2.1; have := HL.out.1; omega
          · intro hf hff N S hS
            have hh := HST.out.2.2.2.2.2 rfl
            rw [hh.2.2 N S hS]
            exact step_no HK.out one_mul (k := 3) (by decide) (by decide) (Nat.lt_of_le_of_lt hS (by decide)) (HR.out.2.2.1 hf (by simp) _ _)
          · intro hf
            have hh := HST.out.2.2.2.2.2 rfl
            have hu := (HR.out.2.2.2 hf).2
            refine ⟨hh.1, by have := hh.2.1; have := HR.out.2.1; have := HL.out.1; omega, fun N S hS => ?_⟩
            rw [hh.2.2 N S hS]
            exact step_ok HK.out one_mul (k := 3) (by decide) (by decide) (Nat.lt_of_le_of_lt hS (by decide)) (lev_le _) (hu.2.2 _ _)
          · have := HR.out.2.1; have := HL.out; omega
        case measure => omega
      · have h0 := reat_no [42] (by decide) HS.out.1 (show preB false [42] p = false by unfold preB; rw [hK]; rfl) HQ.out
        rw [hK, tx42] at h0
        have H0 := Lib.hid h0
        have h1 := fun (W : World) (hr : Rf W X l vv (47 :: q) false mx) => reat_yes (q := q) [47] (by decide) HS.out.1 hKK hr
        rw [tx47] at h1
        have H1 := Lib.hid h1
        clear hK hKK hlen hlq hg h0 h1
        go_wp2_with (first
          | (go_at_call 29; (with_reducible refine (H0.out).mono ?_); rintro e w2 ⟨rfl, hq0, hb0⟩; have HQ1 := Lib.hid hq0; have HB1 := Lib.hid (HB.out.trans hb0); clear hq0 hb0)
          | (go_at_call 29; (with_reducible refine (H1.out _ HQ1.out).mono ?_); rintro e w3 ⟨rfl, hq1, hb1⟩; have HQ2 := Lib.hid hq1; have HB2 := Lib.hid (HB1.out.trans hb1); clear hq1 hb1)
          | (go_at_call 64; (with_reducible refine (HU.out _ HB2.out HQ2.out).mono ?_); rintro e w6 ⟨b, r2, f2, m2, rfl, hI, hle, hq6, hb6, hno6, hok6⟩; have HR := Lib.hid (And.intro hI (And.intro hle (And.intro hno6 hok6))); have HQ6 := Lib.hid hq6; have HB6 := Lib.hid (HB2.out.trans hb6); clear hI hle hq6 hb6 hno6 hok6)
          | (go_at_call 66; (with_reducible refine (rdiv_any a b HA.out HQ6.out).mono ?_); rintro e w7 ⟨rfl, hq7, hb7⟩; have HQ7 := Lib.hid hq7; have HB7 := Lib.hid (HB6.out.trans hb7); clear hq7 hb7))
        go_roundg g'
        case rel =>
          refine ⟨(twoV [47] a b).1, by rfl, Lib.hid ⟨r2, f2, _, ⟨HQ7.out, HB7.out, two_I [47] a b HR.out.1, ?_, ?_, ?_⟩, ?_⟩⟩
          · have := HST.out.2.2.2.1; have := HR.out.2.1; have := HL.out.1; omega
          · intro hf hff N S hS
            have hh := HST.out.2.2.2.2.2 rfl
            rw [hh.2.2 N S hS]
            exact step_no HK.out one_quo (k := 3) (by decide) (by decide) (Nat.lt_of_le_of_lt hS (by decide)) (HR.out.2.2.1 hf (by simp) _ _)
          · intro hf
            have hh := HST.out.2.2.2.2.2 rfl
            have hu := (HR.out.2.2.2 hf).2
            refine ⟨hh.1, by have := hh.2.1; have := HR.out.2.1; have := HL.out.1; omega, fun N S hS => ?_⟩
            rw [hh.2.2 N S hS]
            exact step_ok HK.out one_quo (k := 3) (by decide) (by decide) (Nat.lt_of_le_of_lt hS (by decide)) (lev_le _) (hu.2.2 _ _)
          · have := HR.out.2.1; have := HL.out; omega
        case measure => omega
      · have h0 := reat_no [42] (by decide) HS.out.1 (show preB false [42] p = false by unfold preB; rw [hK]; rfl) HQ.out
        rw [hK, tx42] at h0
        have H0 := Lib.hid h0
        have h1 := fun (W : World) (hr : Rf W X l vv (37 :: q) false mx) => reat_no [47] (by decide) HS.out.1 (show preB false [47] (37 :: q) = false by unfold preB; rw [hKK]; rfl) hr
        rw [hKK, tx47] at h1
        have H1 := Lib.hid h1
        have h2 := fun (W : World) (hr : Rf W X l vv (37 :: q) false mx) => reat_yes (q := q) [37] (by decide) HS.out.1 hKK hr
        rw [tx37] at h2
        have H2 := Lib.hid h2
        clear hK hKK hlen hlq hg h0 h1 h2
        go_wp2_with (first
          | (go_at_call 29; (with_reducible refine (H0.out).mono ?_); rintro e w2 ⟨rfl, hq0, hb0⟩; have HQ1 := Lib.hid hq0; have HB1 := Lib.hid (HB.out.trans hb0); clear hq0 hb0)
          | (go_at_call 29; (with_reducible refine (H1.out _ HQ1.out).mono ?_); rintro e w3 ⟨rfl, hq1, hb1⟩; have HQ2 := Lib.hid hq1; have HB2 := Lib.hid (HB1.out.trans hb1); clear hq1 hb1)
          | (go_at_call 29; (with_reducible refine (H2.out _ HQ2.out).mono ?_); rintro e w4 ⟨rfl, hq2, hb2⟩; have HQ3 := Lib.hid hq2; have HB3 := Lib.hid (HB2.out.trans hb2); clear hq2 hb2)
          | (go_at_call 64; (with_reducible refine (HU.out _ HB3.out HQ3.out).mono ?_); rintro e w6 ⟨b, r2, f2, m2, rfl, hI, hle, hq6, hb6, hno6, hok6⟩; have HR := Lib.hid (And.intro hI (And.intro hle (And.intro hno6 hok6))); have HQ6 := Lib.hid hq6; have HB6 := Lib.hid (HB3.out.trans hb6); clear hI hle hq6 hb6 hno6 hok6)
          | (go_at_call 66; (with_reducible refine (rrem_any a b  HQ6.out).mono ?_); rintro e w7 ⟨rfl, hq7, hb7⟩; have HQ7 := Lib.hid hq7; have HB7 := Lib.hid (HB6.out.trans hb7); clear hq7 hb7))
        go_roundg g'
        case rel =>
          refine ⟨(twoV [37] a b).1, by rfl, Lib.hid ⟨r2, f2, _, ⟨HQ7.out, HB7.out, two_I [37] a b HR.out.1, ?_, ?_, ?_⟩, ?_⟩⟩
          · have := HST.out.2.2.2.1; have := HR.out.2.1; have := HL.out.1; omega
          · intro hf hff N S hS
            have hh := HST.out.2.2.2.2.2 rfl
            rw [hh.2.2 N S hS]
            exact step_no HK.out one_rem (k := 3) (by decide) (by decide) (Nat.lt_of_le_of_lt hS (by decide)) (HR.out.2.2.1 hf (by simp) _ _)
          · intro hf
            have hh := HST.out.2.2.2.2.2 rfl
            have hu := (HR.out.2.2.2 hf).2
            refine ⟨hh.1, by have := hh.2.1; have := HR.out.2.1; have := HL.out.1; omega, fun N S hS => ?_⟩
            rw [hh.2.2 N S hS]
            exact step_ok HK.out one_rem (k := 3) (by decide) (by decide) (Nat.lt_of_le_of_lt hS (by decide)) (lev_le _) (hu.2.2 _ _)
          · have := HR.out.2.1; have := HL.out; omega
        case measure => omega
end

section
variable {w : World} {X : Nat} {l r : B} {vv : Value} {f m : Bool} {vs : Vars} {n : Nat}
/-- sum, where less than n is left. -/
def SAt (vs : Vars) (l : B) (vv : Value) (X n : Nat) : Prop := ∀ (w : World) (r : B) (f m : Bool), r.length < n → Env w X vv vs → Rf w X l vv r f m →
  Calls Tryd.prog 28 #[.pointer (some ⟨X, 0, none⟩)] w fun e w' => Res w X l vv r f (SOk vs r m) (SNo vs r m) e w'
/-- Where its loop stands. -/
def SumSt (vs : Vars) (w : World) (X : Nat) (l : B) (vv : Value) (r : B) (f m : Bool) (a : Int) (p : B) (fx mx : Bool) (wx : World) : Prop :=
  Rf wx X l vv p fx mx ∧ Below X w wx ∧ I64 a ∧ p.length ≤ r.length ∧ (fx = true → f = false → SNo vs r m) ∧ (fx = false → f = false ∧ p.length < r.length ∧ lev (tokB p) ≤ 2 ∧ ∀ N S, lastL S ≤ 1 → runM vs r N S m = contM vs p (a :: N) S mx)
theorem tx43 : tx [43] = ⟨#[43]⟩ := rfl
set_option maxRecDepth 100000 in
set_option maxHeartbeats 4000000 in
theorem sum_any (hl : l.length ≤ 2147483648) (hU : PAt vs l vv X n) : SAt vs l vv X n := by
  intro w r f m hn he h
  have HU0 := Lib.hid (hU w r f m hn he h)
  have HE := Lib.hid he
  have HS := Lib.hid (And.intro hl hn)
  have HUU := Lib.hid hU
  clear hl hU hn he h
  go_enter Tryd.func28, Tryd.ntmps28
  go_wp2_with (go_at_call 48; (with_reducible refine HU0.out.mono ?_); rintro e w1 ⟨a, p, fx, mx, rfl, hI, hle, hq, hb, hno, hok⟩; have HST := Lib.hid (show SumSt vs w X l vv r f m a p fx mx w1 from ⟨hq, hb, hI, hle, fun h1 h2 N S hS => hno h1 h2 N S (by omega), fun h1 => ⟨(hok h1).1, (hok h1).2.1, (hok h1).2.2.1, fun N S hS => (hok h1).2.2.2 N S (by omega)⟩⟩); clear hI hle hq hb hno hok)
  go_loopg [3] (r.length) (fun gf s3 wx => ∃ a, s3 = .int .i64 a ∧ Hid (∃ p fx mx, SumSt vs w X l vv r f m a p fx mx wx ∧ p.length ≤ gf))
  case atStart => exact ⟨a, rfl, Lib.hid ⟨p, fx, mx, HST.out, HST.out.2.2.2.1⟩⟩
  case round =>
    clear HST
    obtain ⟨a, rfl, hrel⟩ := hrel
    obtain ⟨p, fx, mx, hst, hg⟩ := hrel.out
    have HST := Lib.hid hst
    have HQ := Lib.hid hst.1
    have HB := Lib.hid hst.2.1
    have HA := Lib.hid hst.2.2.1
    clear hst hrel
    obtain ⟨K, hK⟩ : ∃ K, skipB p = K := ⟨_, rfl⟩
    have hKK : skipB K = K := by rw [← hK, skip_skip]
    by_cases hno : fx = true ∨ ([43].isPrefixOf K = false ∧ [45].isPrefixOf K = false)
    · have hp : preB fx [43] p = false ∧ preB fx [43] K = false ∧ preB fx [45] p = false ∧ preB fx [45] K = false := by
        unfold preB
        rw [hKK, hK]
        rcases hno with rfl | hno
        · simp
        · simp [hno]
      have h0 := reat_no [43] (by decide) HS.out.1 hp.1 HQ.out
      rw [hK, tx43] at h0
      have H0 := Lib.hid h0
      have h1 := fun (W : World) (hr : Rf W X l vv K fx mx) => reat_no [45] (by decide) HS.out.1 hp.2.2.2 hr
      rw [hKK, tx45] at h1
      have H1 := Lib.hid h1
      have HNO := Lib.hid hno
      have HK := Lib.hid hK
      clear hno hp hK hKK hg h0 h1
      go_wp2_with (first
        | (go_at_call 29; (with_reducible refine (H0.out).mono ?_); rintro e w2 ⟨rfl, hq0, hb0⟩; have HQ1 := Lib.hid hq0; have HB1 := Lib.hid (HB.out.trans hb0); clear hq0 hb0)
        | (go_at_call 29; (with_reducible refine (H1.out _ HQ1.out).mono ?_); rintro e w3 ⟨rfl, hq1, hb1⟩; have HQ2 := Lib.hid hq1; have HB2 := Lib.hid (HB1.out.trans hb1); clear hq1 hb1))
      go_ret
      refine ⟨a, K, fx, mx, rfl, HA.out, ?_, HQ2.out, HB2.out, HST.out.2.2.2.2.1, fun hf => ?_⟩
      · rw [← HK.out]; exact Nat.le_trans (skip_len _) HST.out.2.2.2.1
      · have hh := HST.out.2.2.2.2.2 hf
        have hz := HNO.out.resolve_left (by rw [hf]; simp)
        refine ⟨hh.1, ?_, ?_, fun N S hS => ?_⟩
        · rw [← HK.out]; exact Nat.lt_of_le_of_lt (skip_len _) hh.2.1
        · rw [← HK.out]; exact no2 (by rw [(tok_skip_skip p).1]; exact hh.2.2.1) (by rw [skip_skip, HK.out]; exact hz.1) (by rw [skip_skip, HK.out]; exact hz.2)
        · rw [hh.2.2.2 N S hS, ← HK.out, cont_skip]
    · have hfx : fx = false := by
        cases fx with
        | true => exact absurd (Or.inl rfl) hno
        | false => rfl
      subst hfx
      obtain ⟨c, q, hcq, hc⟩ : ∃ c q, K = c :: q ∧ (c = 43 ∨ c = 45) := by
        cases K with
        | nil => exact absurd (Or.inr (by decide)) hno
        | cons c q =>
          refine ⟨c, q, rfl, ?_⟩
          by_cases hc : c = 43 ∨ c = 45
          · exact hc
          · refine absurd (Or.inr ?_) hno
            simp only [not_or] at hc
            have z : ∀ t : UInt8, c ≠ t → [t].isPrefixOf (c :: q) = false := by
              intro t ht
              have h8 : (t == c) = false := by simpa using (fun e => ht e.symm)
              show (t == c && _) = false
              rw [h8]; rfl
            exact ⟨z 43 hc.1, z 45 hc.2⟩
      subst hcq
      clear hno
      have hlen := skip_len p
      rw [hK] at hlen
      obtain ⟨g', rfl⟩ : ∃ g', gk = g' + 1 := ⟨gk - 1, by simp at hlen; omega⟩
      have hlq : q.length < p.length := by simp at hlen; omega
      have HL := Lib.hid (And.intro hlq hg)
      have HU := Lib.hid (fun (W : World) (hW : Below X w W) (hr : Rf W X l vv q false mx) => HUU.out W q false mx (by have := HS.out.2; have := HST.out.2.2.2.1; omega) (HE.out.step hW) hr)
      have HK := Lib.hid hK
      rcases hc with rfl | rfl
      · have h0 := reat_yes (q := q) [43] (by decide) HS.out.1 hK HQ.out
        rw [tx43] at h0
        have H0 := Lib.hid h0
        clear hK hKK hlen hlq hg h0
        go_wp2_with (first
          | (go_at_call 29; (with_reducible refine (H0.out).mono ?_); rintro e w2 ⟨rfl, hq0, hb0⟩; have HQ1 := Lib.hid hq0; have HB1 := Lib.hid (HB.out.trans hb0); clear hq0 hb0)
          | (go_at_call 48; (with_reducible refine (HU.out _ HB1.out HQ1.out).mono ?_); rintro e w6 ⟨b, r2, f2, m2, rfl, hI, hle, hq6, hb6, hno6, hok6⟩; have HR := Lib.hid (And.intro hI (And.intro hle (And.intro hno6 hok6))); have HQ6 := Lib.hid hq6; have HB6 := Lib.hid (HB1.out.trans hb6); clear hI hle hq6 hb6 hno6 hok6)
          | (go_at_call 49; (with_reducible refine (radd_any a b HA.out HR.out.1 HQ6.out).mono ?_); rintro e w7 ⟨rfl, hq7, hb7⟩; have HQ7 := Lib.hid hq7; have HB7 := Lib.hid (HB6.out.trans hb7); clear hq7 hb7))
        go_roundg g'
        case rel =>
          refine ⟨ArMath.wr (a + b), by rfl, Lib.hid ⟨r2, f2, _, ⟨HQ7.out, HB7.out, wr_I _, ?_, ?_, ?_⟩, ?_⟩⟩
          · have := HST.out.2.2.2.1; have := HR.out.2.1; have := HL.out.1; omega
          · intro hf hff N S hS
            have hh := HST.out.2.2.2.2.2 rfl
            rw [hh.2.2.2 N S hS]
            exact step_no HK.out one_add (k := 2) (by decide) (by decide) (Nat.lt_of_le_of_lt hS (by decide)) (HR.out.2.2.1 hf (by simp) _ _ (by show (2 : Nat) ≤ 2; omega))
          · intro hf
            have hh := HST.out.2.2.2.2.2 rfl
            have hu := (HR.out.2.2.2 hf).2
            refine ⟨hh.1, by have := hh.2.1; have := HR.out.2.1; have := HL.out.1; omega, hu.2.1, fun N S hS => ?_⟩
            rw [hh.2.2.2 N S hS]
            exact step_ok HK.out one_add (k := 2) (by decide) (by decide) (Nat.lt_of_le_of_lt hS (by decide)) hu.2.1 (hu.2.2 _ _ (by show (2 : Nat) ≤ 2; omega))
          · have := HR.out.2.1; have := HL.out; omega
        case measure => omega
      · have h0 := reat_no [43] (by decide) HS.out.1 (show preB false [43] p = false by unfold preB; rw [hK]; rfl) HQ.out
        rw [hK, tx43] at h0
        have H0 := Lib.hid h0
        have h1 := fun (W : World) (hr : Rf W X l vv (45 :: q) false mx) => reat_yes (q := q) [45] (by decide) HS.out.1 hKK hr
        rw [tx45] at h1
        have H1 := Lib.hid h1
        clear hK hKK hlen hlq hg h0 h1
        go_wp2_with (first
          | (go_at_call 29; (with_reducible refine (H0.out).mono ?_); rintro e w2 ⟨rfl, hq0, hb0⟩; have HQ1 := Lib.hid hq0; have HB1 := Lib.hid (HB.out.trans hb0); clear hq0 hb0)
          | (go_at_call 29; (with_reducible refine (H1.out _ HQ1.out).mono ?_); rintro e w3 ⟨rfl, hq1, hb1⟩; have HQ2 := Lib.hid hq1; have HB2 := Lib.hid (HB1.out.trans hb1); clear hq1 hb1)
          | (go_at_call 48; (with_reducible refine (HU.out _ HB2.out HQ2.out).mono ?_); rintro e w6 ⟨b, r2, f2, m2, rfl, hI, hle, hq6, hb6, hno6, hok6⟩; have HR := Lib.hid (And.intro hI (And.intro hle (And.intro hno6 hok6))); have HQ6 := Lib.hid hq6; have HB6 := Lib.hid (HB2.out.trans hb6); clear hI hle hq6 hb6 hno6 hok6)
          | (go_at_call 50; (with_reducible refine (rsub_any a b HA.out HR.out.1 HQ6.out).mono ?_); rintro e w7 ⟨rfl, hq7, hb7⟩; have HQ7 := Lib.hid hq7; have HB7 := Lib.hid (HB6.out.trans hb7); clear hq7 hb7))
        go_roundg g'
        case rel =>
          refine ⟨ArMath.wr (a - b), by rfl, Lib.hid ⟨r2, f2, _, ⟨HQ7.out, HB7.out, wr_I _, ?_, ?_, ?_⟩, ?_⟩⟩
          · have := HST.out.2.2.2.1; have := HR.out.2.1; have := HL.out.1; omega
          · intro hf hff N S hS
            have hh := HST.out.2.2.2.2.2 rfl
            rw [hh.2.2.2 N S hS]
            exact step_no HK.out one_sub (k := 2) (by decide) (by decide) (Nat.lt_of_le_of_lt hS (by decide)) (HR.out.2.2.1 hf (by simp) _ _ (by show (2 : Nat) ≤ 2; omega))
          · intro hf
            have hh := HST.out.2.2.2.2.2 rfl
            have hu := (HR.out.2.2.2 hf).2
            refine ⟨hh.1, by have := hh.2.1; have := HR.out.2.1; have := HL.out.1; omega, hu.2.1, fun N S hS => ?_⟩
            rw [hh.2.2.2 N S hS]
            exact step_ok HK.out one_sub (k := 2) (by decide) (by decide) (Nat.lt_of_le_of_lt hS (by decide)) hu.2.1 (hu.2.2 _ _ (by show (2 : Nat) ≤ 2; omega))
          · have := HR.out.2.1; have := HL.out; omega
        case measure => omega
end
end Go.Proofs.YtlgbfhjbfolibaaDoor
