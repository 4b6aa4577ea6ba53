/-
  Proved: of the lexer by letters: what it leaves is an end of what there was, shorter where it took something; what it makes is short. Conditions: as each says.
-/
import Derived.Test.YtloaalapkmbgeaaDoorLexMath
namespace Go.Proofs.YtloaalapkmbgeaaDoor.LexMath
open Go Go.Lib GlyphMath

/-- So much is left, less than there was; and the parts are short still. -/
def Less (xs ys : List Nat) : Prop := Suf xs ys ∧ ys.length < xs.length

theorem Less.suf {a b c : List Nat} (h : Less a b) (k : Suf b c) : Less a c := ⟨h.1.trans k, by have := k.len; have := h.2; omega⟩
theorem Suf.less {a b c : List Nat} (h : Suf a b) (k : Less b c) : Less a c := ⟨h.trans k.1, by have := h.len; have := k.2; omega⟩
theorem tail_less {xs : List Nat} (h : xs ≠ []) : Less xs xs.tail := by
  cases xs with
  | nil => exact absurd rfl h
  | cons a r => exact ⟨Suf.tail _, by simp⟩
theorem takes_less {p xs ys : List Nat} (h : takes p xs = some ys) (hp : p ≠ []) : Less xs ys := by
  refine ⟨Suf.takes h, ?_⟩
  rw [takes_length p xs ys h, List.length_append]
  have := List.length_pos_iff.2 hp
  omega

theorem escaped_less {xs ys : List Nat} {ps qs : List Pt} (h : escapedM xs ps = .ok (qs, ys)) : Less xs ys ∧ (Fits xs ps → Fits ys qs) := by
  unfold escapedM at h
  cases ht : xs.tail with
  | nil => rw [ht] at h; cases h
  | cons c r =>
    rw [ht] at h
    cases h
    have hx : xs ≠ [] := fun e => by rw [e] at ht; cases ht
    have h1 := tail_less hx
    rw [ht] at h1
    have h2 : Less xs ys := h1.suf ⟨[c], rfl⟩
    have h3 := h1.2
    simp only [List.length_cons] at h3
    exact ⟨h2, fun hf => hf.lit _ _ (by omega) (by have := (enc_length [c]).2; simp only [List.length_singleton] at this; omega)⟩
theorem escapedWithin_less {xs ys : List Nat} {ps qs : List Pt} (h : escapedWithinM xs ps = .ok (qs, ys)) : Less xs ys ∧ (Fits xs ps → Fits ys qs) := by
  unfold escapedWithinM at h
  cases ht : xs.tail with
  | nil => rw [ht] at h; cases h
  | cons c r =>
    rw [ht] at h
    cases h
    have hx : xs ≠ [] := fun e => by rw [e] at ht; cases ht
    have h1 := tail_less hx
    rw [ht] at h1
    have h3 := h1.2
    simp only [List.length_cons] at h3
    have h2 : Less xs ys := h1.suf ⟨[c], rfl⟩
    have h4 := (enc_length [c]).2
    simp only [List.length_singleton] at h4
    refine ⟨h2, fun hf => ?_⟩
    cases acts c with
    | true => exact hf.lit _ _ (by omega) (by omega)
    | false =>
      have hf1 : Fits (c :: ys) (lit ps [92] true) := hf.lit _ _ (by simp only [List.length_cons]; omega) (by simp only [List.length_cons, List.length_nil]; omega)
      exact hf1.lit _ _ (by simp) (by simp only [List.length_cons]; omega)
theorem single_less {xs ys : List Nat} {ps qs : List Pt} (h : singleM xs ps = .ok (qs, ys)) (hx : xs ≠ []) : Less xs ys ∧ (Fits xs ps → Fits ys qs) := by
  unfold singleM at h
  have h1 := tail_less hx
  cases ht : takes [39] (left (fun r => r == 39) xs.tail) with
  | none => rw [ht] at h; cases h
  | some r =>
    rw [ht] at h
    cases h
    have h2 := takes_less ht (by decide)
    have h3 := got_length (fun r => r == 39) xs.tail
    have h4 := (enc_length (got (fun r => r == 39) xs.tail)).2
    have h5 := h1.2
    have h6 := h2.2
    exact ⟨h1.suf ((Suf.left _ _).trans h2.1), fun hf => hf.lit _ _ (by omega) (by omega)⟩
theorem parameter_suf {xs ys : List Nat} {l : List Nat} (h : parameterM xs = .ok (l, ys)) : Suf xs ys ∧ l.length + ys.length ≤ xs.length ∧ ys.length < xs.length := by
  unfold parameterM at h
  cases xs with
  | nil =>
    have e1 : other (next []) = false := rfl
    rw [e1] at h
    simp [got, nameL] at h
  | cons a r =>
    split at h
    · cases h
      exact ⟨⟨[a], rfl⟩, by simp only [List.length_cons, List.length_nil, List.tail_cons]; omega, by simp⟩
    · split at h
      · rename_i hn
        cases h
        have h3 := got_length (fun r => !moreR r) (a :: r)
        refine ⟨Suf.left _ _, by omega, ?_⟩
        cases hg : got (fun r => !moreR r) (a :: r) with
        | nil => rw [hg] at hn; simp [nameL] at hn
        | cons b s => rw [hg, List.length_cons] at h3; omega
      · cases h
theorem op_suf {nm : Bool} {xs ys : List Nat} {o : List UInt8} (h : opM nm xs = some (o, ys)) : Less xs ys := by
  unfold opM at h
  split at h
  · rename_i hs; cases h; exact takes_less hs (by decide)
  · split at h
    · rename_i hs; cases h; exact takes_less hs (by decide)
    · split at h
      · split at h
        · rename_i hs; cases h; exact takes_less hs (by decide)
        · cases h
      · cases h
theorem close_less {xs ys : List Nat} {p q : Pt} (h : closeM p xs = .ok (q, ys)) : Less xs ys ∧ q = p := by
  unfold closeM at h
  split at h
  · rename_i hs; cases h; exact ⟨takes_less hs (by decide), rfl⟩
  · cases h

/-- Parts that leave less, and texts that are short. -/
def PartsOk (f : List Nat → Res (List Pt)) : Prop := ∀ xs ps ys, f xs = .ok (ps, ys) → Suf xs ys
def BraceOk (f : List Nat → Res Pt) : Prop := ∀ xs p ys, f xs = .ok (p, ys) → Less xs ys ∧ p.text.length + 4 * ys.length ≤ 4 * xs.length

theorem operation_ok {f : List Nat → Res (List Pt)} (hf : PartsOk f) {l xs ys : List Nat} {p : Pt} (h : operationM f l xs = .ok (p, ys)) : Suf xs ys ∧ p.text.length + 4 * ys.length ≤ 4 * xs.length + 4 * l.length := by
  unfold operationM at h
  split at h
  · cases hp : parameterM xs with
    | error e => rw [hp] at h; cases h
    | ok a =>
      obtain ⟨l', r⟩ := a
      rw [hp] at h
      cases h
      obtain ⟨h1, h2, _⟩ := parameter_suf hp
      have := (enc_length l').2
      exact ⟨h1, by simp only; omega⟩
  · cases hp : opM (nameL l) xs with
    | none => rw [hp] at h; cases h
    | some a =>
      obtain ⟨o, r⟩ := a
      rw [hp] at h
      simp only at h
      have h1 := op_suf hp
      cases hq : f r with
      | error e => rw [hq] at h; cases h
      | ok b =>
        obtain ⟨w, r'⟩ := b
        rw [hq] at h
        cases h
        have h2 := hf _ _ _ hq
        have := (enc_length l).2
        have := h2.len
        have := h1.2
        exact ⟨h1.1.trans h2, by simp only; omega⟩
theorem braces_ok {f : List Nat → Res (List Pt)} (hf : PartsOk f) (lim : Bool) : BraceOk (bracesM lim f) := by
  intro xs p ys h
  unfold bracesM at h
  split at h
  · cases h
  · cases hp : parameterM xs with
    | error e => rw [hp] at h; cases h
    | ok a =>
      obtain ⟨l, r⟩ := a
      rw [hp] at h
      simp only at h
      obtain ⟨h1, h2, h3⟩ := parameter_suf hp
      split at h
      · obtain ⟨k1, rfl⟩ := close_less h
        have := (enc_length l).2
        have := k1.2
        exact ⟨h1.less k1, by simp only; omega⟩
      · cases hq : operationM f l r with
        | error e => rw [hq] at h; cases h
        | ok b =>
          obtain ⟨p', r'⟩ := b
          rw [hq] at h
          simp only at h
          obtain ⟨k1, k2⟩ := close_less h
          obtain ⟨m1, m2⟩ := operation_ok hf hq
          have := k1.2
          rw [k2]
          exact ⟨(h1.trans m1).less k1, by omega⟩
theorem arith_suf : ∀ (xs : List Nat) (n : Nat) (acc l ys : List Nat), arithM xs n acc = .ok (l, ys) → Suf xs ys ∧ l.length + ys.length ≤ acc.length + xs.length ∧ (ys.length < xs.length)
  | [], n, acc, l, ys, h => by cases h
  | c :: r, n, acc, l, ys, h => by
    rw [arithM] at h
    split at h
    · split at h
      · cases h
        cases r with
        | nil => exact ⟨⟨[c], rfl⟩, by simp, by simp⟩
        | cons d s => exact ⟨⟨[c, d], rfl⟩, by simp only [List.tail_cons, List.length_cons]; omega, by simp only [List.tail_cons, List.length_cons]; omega⟩
      · cases h
    · split at h
      · obtain ⟨h1, h2, h3⟩ := arith_suf r _ _ _ _ h
        refine ⟨Suf.trans ⟨[c], rfl⟩ h1, ?_, ?_⟩
        · simp only [List.length_append, List.length_nil, List.length_cons] at h2 ⊢; omega
        · simp only [List.length_cons]; omega
      · cases h
theorem dollar_less {br : List Nat → Res Pt} (hb : BraceOk br) {q : Bool} {xs ys : List Nat} {ps qs : List Pt} (h : dollarM br q xs ps = .ok (qs, ys)) (hx : xs ≠ []) : Less xs ys ∧ (Fits xs ps → Fits ys qs) := by
  unfold dollarM at h
  have h0 := tail_less hx
  have h00 := h0.2
  split at h
  · rename_i r hs
    have h1 := takes_less hs (by decide)
    have h11 := h1.2
    cases hp : br r with
    | error e => rw [hp] at h; cases h
    | ok a =>
      obtain ⟨p, r'⟩ := a
      rw [hp] at h
      cases h
      obtain ⟨h2, h3⟩ := hb _ _ _ hp
      have h22 := h2.2
      exact ⟨h0.suf (h1.1.trans h2.1), fun hf => hf.add (by omega) (by have := hf.1; simp only; omega)⟩
  · split at h
    · rename_i r hs
      have h1 := takes_less hs (by decide)
      have h11 := h1.2
      cases hp : arithM r 0 [] with
      | error e => rw [hp] at h; cases h
      | ok a =>
        obtain ⟨l, r'⟩ := a
        rw [hp] at h
        cases h
        obtain ⟨h2, h3, h4⟩ := arith_suf _ _ _ _ _ hp
        have h5 := (enc_length l).2
        simp only [List.length_nil] at h3
        exact ⟨h0.suf (h1.1.trans h2), fun hf => hf.add (by omega) (by have := hf.1; simp only; omega)⟩
    · split at h
      · cases hp : parameterM xs.tail with
        | error e => rw [hp] at h; cases h
        | ok a =>
          obtain ⟨l, r'⟩ := a
          rw [hp] at h
          cases h
          obtain ⟨h2, h3, h4⟩ := parameter_suf hp
          have h5 := (enc_length l).2
          exact ⟨h0.suf h2, fun hf => hf.add (by omega) (by have := hf.1; simp only; omega)⟩
      · cases h
        exact ⟨h0, fun hf => hf.lit _ _ (by omega) (by simp only [List.length_singleton]; omega)⟩
theorem within_less {br : List Nat → Res Pt} (hb : BraceOk br) {xs ys : List Nat} {ps qs : List Pt} (h : withinM br xs ps = .ok (qs, ys)) (hn : next xs ≠ 34) : Less xs ys ∧ (Fits xs ps → Fits ys qs) := by
  unfold withinM at h
  have hx : next xs ≠ 0 → xs ≠ [] := fun h0 e => h0 (by rw [e]; rfl)
  split at h
  · cases h
  · rename_i h0
    split at h
    · exact escapedWithin_less h
    · split at h
      · exact dollar_less hb h (hx h0)
      · rename_i h1 h2
        cases h
        cases xs with
        | nil => exact absurd rfl h0
        | cons c r =>
          simp only [next] at hn h0 h1 h2
          have ha : acts c = false := by simp [acts, hn, h1, h2]
          have h3 := left_lt acts c r ha
          have h4 := got_length acts (c :: r)
          have h5 := (enc_length (got acts (c :: r))).2
          exact ⟨⟨Suf.left _ _, h3⟩, fun hf => hf.lit _ _ (by omega) (by omega)⟩
theorem doubleL_less {br : List Nat → Res Pt} (hb : BraceOk br) : ∀ (f : Nat) (xs ys : List Nat) (ps qs : List Pt), doubleL br f xs ps = .ok (qs, ys) → Suf xs ys ∧ (Fits xs ps → Fits ys qs)
  | 0, _, _, _, _, h => by cases h
  | f + 1, xs, ys, ps, qs, h => by
    rw [doubleL] at h
    split at h
    · rename_i r hs
      cases h
      have h1 := takes_less hs (by decide)
      have h2 := h1.2
      exact ⟨h1.1, fun hf => hf.mono (by omega)⟩
    · rename_i hs
      cases hw : withinM br xs ps with
      | error e => rw [hw] at h; cases h
      | ok a =>
        obtain ⟨ps', xs'⟩ := a
        rw [hw] at h
        simp only at h
        have hn : next xs ≠ 34 := fun e => by
          rw [takes_one, if_pos ⟨e, fun e' => by rw [e'] at e; cases e⟩] at hs
          cases hs
        obtain ⟨h1, h2⟩ := within_less hb hw hn
        obtain ⟨h3, h4⟩ := doubleL_less hb f _ _ _ _ h
        exact ⟨h1.1.trans h3, fun hf => h4 (h2 hf)⟩
theorem double_less {br : List Nat → Res Pt} (hb : BraceOk br) {xs ys : List Nat} {ps qs : List Pt} (h : doubleM br xs ps = .ok (qs, ys)) (hx : xs ≠ []) : Less xs ys ∧ (Fits xs ps → Fits ys qs) := by
  unfold doubleM at h
  have h0 := tail_less hx
  have h00 := h0.2
  obtain ⟨h1, h2⟩ := doubleL_less hb _ _ _ _ _ h
  refine ⟨h0.suf h1, fun hf => h2 ?_⟩
  split
  · exact hf.lit _ _ (by omega) (by simp only [List.length_nil]; omega)
  · exact hf.mono (by omega)
theorem part_less {br : List Nat → Res Pt} (hb : BraceOk br) {deep : Bool} {xs ys : List Nat} {ps qs : List Pt} (h : partM br deep xs ps = .ok (qs, ys)) (hn : next xs ≠ 0) (he : ends (next xs) deep = false) : Less xs ys ∧ (Fits xs ps → Fits ys qs) := by
  unfold partM at h
  have hx : xs ≠ [] := fun e => hn (by rw [e]; rfl)
  split at h
  · exact escaped_less h
  · split at h
    · exact single_less h hx
    · split at h
      · exact double_less hb h hx
      · split at h
        · exact dollar_less hb h hx
        · rename_i h1 h2 h3 h4
          cases h
          cases xs with
          | nil => exact absurd rfl hn
          | cons c r =>
            simp only [next] at he h1 h2 h3 h4
            have ha : (begins c || ends c deep) = false := by simp [begins, acts, h1, h2, h3, h4, he]
            have h5 := left_lt (fun r => begins r || ends r deep) c r ha
            have h6 := got_length (fun r => begins r || ends r deep) (c :: r)
            have h7 := (enc_length (got (fun r => begins r || ends r deep) (c :: r))).2
            exact ⟨⟨Suf.left _ _, h5⟩, fun hf => hf.lit _ _ (by omega) (by omega)⟩
theorem partsL_suf {br : List Nat → Res Pt} (hb : BraceOk br) {deep : Bool} : ∀ (f : Nat) (xs ys : List Nat) (ps qs : List Pt), partsL br deep f xs ps = .ok (qs, ys) → Suf xs ys
  | 0, _, _, _, _, h => by cases h
  | f + 1, xs, ys, ps, qs, h => by
    rw [partsL] at h
    split at h
    · cases h; exact Suf.refl _
    · rename_i hc
      cases hw : partM br deep xs ps with
      | error e => rw [hw] at h; cases h
      | ok a =>
        obtain ⟨ps', xs'⟩ := a
        rw [hw] at h
        simp only at h
        have h1 := (part_less hb hw (fun e => hc (.inl e)) (by cases hh : ends (next xs) deep with
          | true => exact absurd (.inr hh) hc
          | false => rfl)).1
        exact h1.1.trans (partsL_suf hb f _ _ _ _ h)
theorem parts_ok : ∀ d, PartsOk (partsM d)
  | 0 => fun xs ps ys h => partsL_suf (braces_ok (f := fun _ => .error 0) (fun _ _ _ h => by cases h) true) _ _ _ _ _ h
  | d + 1 => fun xs ps ys h => partsL_suf (braces_ok (parts_ok d) false) _ _ _ _ _ h
end Go.Proofs.YtloaalapkmbgeaaDoor.LexMath
