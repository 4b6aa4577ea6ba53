/-
  Proved: texts joined: Proved: each word that the lexer by letters makes is one by the model of words, and its texts are short. Conditions: letters that a text may have; at most 4000 of them.
  Proved: the tokens of a text are what a parser reads. Conditions: a text of at most 2000 bytes.
-/
import Derived.Test.YtakceggnadagmaaGreatDoorPj02
import Derived.Test.YtakceggnadagmaaGreatDoorPj07
import Derived.Test.YtakceggnadagmaaGreatDoorPj05
namespace Go.Proofs.YtakceggnadagmaaGreatDoor
open Go Go.Lib GlyphMath LexMath TreeMath

/-! ### bytes of letters -/
theorem teb_low {c : Nat} (h : c < 128) : eb c = [UInt8.ofNat c] := by unfold eb; rw [if_pos h]
theorem eb_high {c : Nat} (h : ¬ c < 128) (hc : c ≤ 1114111) : ∀ b ∈ eb c, 128 ≤ b.toNat := by
  intro b hb
  unfold eb at hb
  rw [if_neg h] at hb
  split at hb
  · simp only [List.mem_cons, List.not_mem_nil, or_false] at hb
    rcases hb with rfl | rfl <;> rw [UInt8.toNat_ofNat'] <;> omega
  · split at hb
    · simp only [List.mem_cons, List.not_mem_nil, or_false] at hb
      rcases hb with rfl | rfl | rfl <;> rw [UInt8.toNat_ofNat'] <;> omega
    · simp only [List.mem_cons, List.not_mem_nil, or_false] at hb
      rcases hb with rfl | rfl | rfl | rfl <;> rw [UInt8.toNat_ofNat'] <;> omega
theorem anyIn_append (a b cs : List UInt8) : anyIn (a ++ b) cs = (anyIn a cs || anyIn b cs) := List.any_append
theorem any_enc {cs : List UInt8} (hcs : ∀ c ∈ cs, c.toNat < 128) : ∀ (l : List Nat), (∀ c ∈ l, c ≤ 1114111 ∧ (c < 128 → cs.contains (UInt8.ofNat c) = false)) → anyIn (enc l) cs = false
  | [], _ => rfl
  | c :: r, h => by
    rw [enc, anyIn_append, any_enc hcs r fun x hx => h x (List.mem_cons_of_mem _ hx), Bool.or_false]
    have hc := h c (by simp)
    by_cases h1 : c < 128
    · rw [teb_low h1]
      unfold anyIn
      rw [List.any_cons, List.any_nil, Bool.or_false]
      exact hc.2 h1
    · unfold anyIn
      rw [List.any_eq_false]
      intro b hb
      rw [not_in (eb_high h1 hc.1 b hb) hcs]
      simp
theorem got_mem (S : Nat → Bool) : ∀ (xs : List Nat) (c : Nat), c ∈ got S xs → S c = false
  | [], _, h => by cases h
  | a :: r, c, h => by
    unfold got at h
    cases hs : S a with
    | true => rw [hs] at h; simp at h
    | false =>
      rw [hs] at h
      simp only [Bool.false_eq_true, ↓reduceIte, List.mem_cons] at h
      rcases h with rfl | h
      · exact hs
      · exact got_mem S r c h
theorem got_all {S : Nat → Bool} {xs : List Nat} (h : ∀ c ∈ xs, GoodL c) : ∀ c ∈ got S xs, GoodL c := fun c hc => h c (by rw [← got_left S xs]; exact List.mem_append_left _ hc)
theorem enc_nil {l : List Nat} (h : (enc l).isEmpty = true) : l = [] := by
  have := (enc_length l).1
  rw [List.isEmpty_iff] at h
  rw [h, List.length_nil] at this
  exact List.eq_nil_of_length_eq_zero (by omega)
theorem tenc_text : ∀ (l : List Nat), (∀ c ∈ l, GoodL c) → firstBad ⟨(enc l).toArray⟩ = none
  | [], _ => rfl
  | c :: r, h => by
    have hc := h c (by simp)
    have ih := tenc_text r fun x hx => h x (List.mem_cons_of_mem _ hx)
    have e : (⟨(enc (c :: r)).toArray⟩ : ByteArray) = ⟨(eb c).toArray⟩ ++ ⟨(enc r).toArray⟩ := by rw [bytes_append]; rfl
    rw [e, firstBad_append _ _ (firstBad_eb hc), ih]
    rfl
theorem textT_enc {l : List Nat} (h : ∀ c ∈ l, GoodL c) : textT (enc l) = true := by
  unfold textT isText
  rw [show firstBad (T (enc l)) = none from tenc_text l h]
  rfl
theorem textT_append {a b : List UInt8} (ha : textT a = true) (hb : textT b = true) : textT (a ++ b) = true := by
  unfold textT at ha hb ⊢
  unfold isText at ha hb ⊢
  rw [show T (a ++ b) = T a ++ T b from (bytes_append a b).symm]
  have h1 : firstBad (T a) = none := by simpa using ha
  have h2 : firstBad (T b) = none := by simpa using hb
  rw [firstBad_append _ _ h1, h2]
  rfl
theorem nameT_enc {l : List Nat} (h : ∀ c ∈ l, GoodL c) : nameT (enc l) = nameL l := by
  unfold nameT
  rw [show letters (T (enc l)) = l from letters_enc l h]

/-! ### parts side by side -/
theorem side_append (f : Pt → Bool) (p : Pt) : ∀ (ps : List Pt) (a : Option Pt), sideT f a (ps ++ [p]) = (sideT f a ps && (f p && !((ps.getLast?.or a).any fun x => oneT x p)))
  | [], a => by simp [sideT]
  | q :: r, a => by
    rw [List.cons_append, sideT, sideT, side_append f p r (some q)]
    have e : ((q :: r).getLast?.or a) = (r.getLast?.or (some q)) := by
      cases r with
      | nil => rfl
      | cons b s => rw [List.getLast?_cons_cons]; cases h : (b :: s).getLast? with
        | none => simp at h
        | some x => rfl
    rw [e, Bool.and_assoc, Bool.and_assoc]
/-- Parts that may be side by side, and whose words are short. -/
structure Well (k : Nat) (wi : Bool) (ps : List Pt) : Prop where
  side : sideT (partT (rowT k) wi) none ps = true
  small : ∀ p ∈ ps, Small p.word
theorem Well.nil (k : Nat) (wi : Bool) : Well k wi [] := ⟨rfl, fun _ h => by cases h⟩
theorem Well.add {k : Nat} {wi : Bool} {ps : List Pt} (h : Well k wi ps) {p : Pt} (hp : partT (rowT k) wi p = true) (ho : ∀ x, oneT x p = false) (hs : Small p.word) : Well k wi (ps ++ [p]) := by
  refine ⟨?_, fun x hx => ?_⟩
  · rw [side_append, h.side, hp]
    have : ((ps.getLast?.or none).any fun x => oneT x p) = false := by
      cases ps.getLast?.or none with
      | none => rfl
      | some x => exact ho x
    rw [this]; rfl
  · rcases List.mem_append.1 hx with hx | hx
    · exact h.small x hx
    · obtain rfl : x = p := by simpa using hx
      exact hs
theorem lit_ne (ps : List Pt) (t : List UInt8) (q : Bool) : lit ps t q ≠ [] := by
  rcases List.eq_nil_or_concat ps with rfl | ⟨r, p, rfl⟩
  · simp [lit]
  · rw [List.concat_eq_append, lit_last]
    split <;> simp
theorem litT_append {wi : Bool} {a b : List UInt8} {q : Bool} {p : Pt} (hp : p.text = a ∧ p.q = q) (ha : litT wi p = true) (hb : litT wi ⟨1, b, [], [], q⟩ = true) : litT wi { p with text := a ++ b } = true := by
  obtain ⟨rfl, rfl⟩ := hp
  unfold litT at ha hb ⊢
  simp only [Bool.and_eq_true, Bool.or_eq_true] at ha hb ⊢
  refine ⟨textT_append ha.1 hb.1, ?_⟩
  rcases ha.2 with h | ⟨h1, h2⟩
  · exact .inl h
  · rcases hb.2 with h | ⟨h3, h4⟩
    · exact .inl h
    · refine .inr ⟨?_, ?_⟩
      · cases hh : p.text with
        | nil => rw [hh] at h1; simp at h1
        | cons x y => rfl
      · rw [anyIn_append]
        simp only [Bool.not_eq_true', Bool.or_eq_false_iff] at h2 h4 ⊢
        exact ⟨h2, h4⟩
theorem Well.lit {k : Nat} {wi : Bool} {ps : List Pt} (h : Well k wi ps) {t : List UInt8} {q : Bool} (ht : litT wi ⟨1, t, [], [], q⟩ = true) : Well k wi (lit ps t q) := by
  have hn : partT (rowT k) wi ⟨1, t, [], [], q⟩ = true := by
    unfold partT
    rw [if_pos rfl, ht]; rfl
  rcases List.eq_nil_or_concat ps with rfl | ⟨r, p, rfl⟩
  · refine ⟨?_, fun x hx => ?_⟩
    · show sideT _ none [_] = true
      rw [sideT, hn]; rfl
    · obtain rfl : x = _ := by simpa [LexMath.lit] using hx
      exact Small.nil
  · rw [List.concat_eq_append] at h ⊢
    have hs := h.side
    rw [side_append, Bool.and_eq_true, Bool.and_eq_true] at hs
    rw [lit_last]
    split
    · rename_i hk
      refine ⟨?_, fun x hx => ?_⟩
      · rw [side_append, hs.1]
        have hpt := hs.2.1
        unfold partT at hpt ⊢
        rw [if_pos hk.1, Bool.and_eq_true, Bool.and_eq_true] at hpt
        rw [if_pos hk.1, hpt.1, hpt.2.1, litT_append ⟨rfl, hk.2⟩ hpt.2.2 ht]
        have e : ∀ x : Pt, oneT x { p with text := p.text ++ t } = oneT x p := fun x => rfl
        simp only [e]
        rw [hs.2.2]; rfl
      · rcases List.mem_append.1 hx with hx | hx
        · exact h.small x (List.mem_append_left _ hx)
        · obtain rfl : x = _ := by simpa using hx
          exact h.small p (by simp)
    · rename_i hk
      refine ⟨?_, fun x hx => ?_⟩
      · rw [side_append, h.side, hn]
        have : ((r ++ [p]).getLast?.or none) = some p := by simp
        rw [this]
        have e : oneT p ⟨1, t, [], [], q⟩ = false := by
          unfold oneT
          by_cases h1 : p.kind = 1
          · have h2 : p.q ≠ q := fun e => hk ⟨h1, e⟩
            have h3 : (p.q == q) = false := by simpa using h2
            rw [h3]; simp
          · have h3 : (p.kind == 1) = false := by simpa using h1
            rw [h3]; rfl
        simp [e]
      · rcases List.mem_append.1 hx with hx | hx
        · exact h.small x hx
        · obtain rfl : x = _ := by simpa using hx
          exact Small.nil
theorem one_not {p : Pt} (h : (p.kind == 1) = false) : ∀ x, oneT x p = false := fun x => by unfold oneT; rw [h]; simp

/-! ### what the pieces make -/
theorem quoted_lit {wi : Bool} {l : List Nat} (h : ∀ c ∈ l, GoodL c) : litT wi ⟨1, enc l, [], [], true⟩ = true := by
  unfold litT
  rw [show textT (Pt.text ⟨1, enc l, [], [], true⟩) = true from textT_enc h]
  rfl
theorem low_in (p : Nat → Bool) (h : (List.range 128).all p = true) {c : Nat} (hc : c < 128) : p c = true := List.all_eq_true.1 h c (List.mem_range.2 hc)
theorem bare_lit {wi : Bool} {l : List Nat} (h : ∀ c ∈ l, GoodL c) (hn : l ≠ []) (hs : ∀ c ∈ l, (begins c || ends c wi) = false) : litT wi ⟨1, enc l, [], [], false⟩ = true := by
  unfold litT
  rw [show textT (Pt.text ⟨1, enc l, [], [], false⟩) = true from textT_enc h]
  have he : (enc l).isEmpty = false := by
    cases hh : (enc l).isEmpty with
    | false => rfl
    | true => exact absurd (enc_nil hh) hn
  have ha : anyIn (enc l) (if wi = true then metaW else metaB) = false := by
    cases wi with
    | true =>
      refine any_enc (by decide) l fun c hc => ⟨(h c hc).2.1, fun h1 => ?_⟩
      have h2 := low_in (fun c => (begins c || ends c true) || !metaW.contains (UInt8.ofNat c)) (by decide +kernel) h1
      simp only [hs c hc, Bool.false_or] at h2
      simpa using h2
    | false =>
      refine any_enc (by decide) l fun c hc => ⟨(h c hc).2.1, fun h1 => ?_⟩
      have h2 := low_in (fun c => (begins c || ends c false) || !metaB.contains (UInt8.ofNat c)) (by decide +kernel) h1
      simp only [hs c hc, Bool.false_or] at h2
      simpa using h2
  show (true && (false || (!(enc l).isEmpty && !anyIn (enc l) _))) = true
  rw [he, ha]; rfl
theorem other_low {c : Nat} (h : other c = true) : c < 128 ∧ GoodL c := by
  unfold other at h
  simp only [Bool.or_eq_true, decide_eq_true_eq, beq_iff_eq] at h
  unfold GoodL
  omega
theorem other_enc {c : Nat} (h : other c = true) : otherT (enc [c]) = true := by
  obtain ⟨h1, _⟩ := other_low h
  have h2 := low_in (fun c => !other c || otherT (enc [c])) (by decide +kernel) h1
  simpa [h] using h2
theorem parameter_well {xs l r : List Nat} (hg : ∀ c ∈ xs, GoodL c) (h : parameterM xs = .ok (l, r)) : nameT (enc l) = nameL l ∧ (nameT (enc l) || otherT (enc l)) = true ∧ (other (next xs) = false → nameL l = true) := by
  unfold parameterM at h
  split at h
  · rename_i ho
    cases h
    refine ⟨nameT_enc fun c hc => ?_, ?_, fun hf => ?_⟩
    · obtain rfl : c = next xs := by simpa using hc
      exact (other_low ho).2
    · rw [other_enc ho, Bool.or_true]
    · rw [ho] at hf; cases hf
  · split at h
    · rename_i hn
      cases h
      have e := nameT_enc (got_all (S := fun r => !moreR r) hg)
      exact ⟨e, by rw [e, hn]; rfl, fun _ => hn⟩
    · cases h
theorem op_well {nm : Bool} {xs r : List Nat} {o : List UInt8} (h : opM nm xs = some (o, r)) : (o = [58, 45] ∨ o = [58, 43]) ∨ (o = [58, 61] ∧ nm = true) := by
  unfold opM at h
  split at h
  · cases h; exact .inl (.inl rfl)
  · split at h
    · cases h; exact .inl (.inr rfl)
    · split at h
      · rename_i hn
        split at h
        · cases h; exact .inr ⟨rfl, hn⟩
        · cases h
      · cases h
/-- Braces whose Vars are ones. -/
def BraceWell (k : Nat) (f : List Nat → Res Pt) : Prop := ∀ xs p r, (∀ c ∈ xs, GoodL c) → xs.length ≤ 4000 → f xs = .ok (p, r) → p.kind = 2 ∧ varT (rowT k) p = true ∧ Small p.word
/-- Parts that are ones. -/
def PartsWell (k : Nat) (f : List Nat → Res (List Pt)) : Prop := ∀ xs ps r, (∀ c ∈ xs, GoodL c) → xs.length ≤ 4000 → f xs = .ok (ps, r) → rowT k ps = true ∧ Small ps
theorem first_other {c : Nat} (h : firstR c = true) : other c = false := by
  unfold firstR at h
  unfold other
  rw [decide_eq_true_eq] at h
  have h1 : ¬ (49 ≤ c ∧ c ≤ 57) := by omega
  have h2 : (c == 64) = false := by simp; omega
  have h3 : (c == 35) = false := by simp; omega
  have h4 : (c == 63) = false := by simp; omega
  rw [decide_eq_false h1, h2, h3, h4]; rfl
theorem operation_well {k : Nat} {f : List Nat → Res (List Pt)} (hf : PartsWell k f) {l xs r : List Nat} {p : Pt} (hg : ∀ c ∈ xs, GoodL c) (hx : xs.length ≤ 4000) (hl : nameT (enc l) = nameL l ∧ (nameT (enc l) || otherT (enc l)) = true) (h : operationM f l xs = .ok (p, r)) : p.kind = 2 ∧ varT (rowT k) p = true ∧ Small p.word := by
  unfold operationM at h
  split at h
  · rename_i hc
    cases hp : parameterM xs with
    | error e => rw [hp] at h; cases h
    | ok a =>
      obtain ⟨l', r'⟩ := a
      rw [hp] at h
      cases h
      obtain ⟨h1, h2, h3⟩ := parameter_well hg hp
      refine ⟨rfl, ?_, Small.nil⟩
      unfold varT
      have hn := h3 (first_other hc.2)
      rw [hn] at h1
      simp [h1]
  · cases hp : opM (nameL l) xs with
    | none => rw [hp] at h; cases h
    | some a =>
      obtain ⟨o, r'⟩ := a
      rw [hp] at h
      simp only at h
      have ho := op_suf hp
      cases hq : f r' with
      | error e => rw [hq] at h; cases h
      | ok b =>
        obtain ⟨w, r2⟩ := b
        rw [hq] at h
        cases h
        obtain ⟨h1, h2⟩ := hf r' w _ (ho.1.good hg) (by have := ho.2; omega) hq
        refine ⟨rfl, ?_, h2⟩
        unfold varT
        simp only [hl.2, h1]
        rcases op_well hp with (rfl | rfl) | ⟨rfl, hn⟩
        · simp
        · simp
        · simp [hl.1, hn]
theorem braces_well {k : Nat} {f : List Nat → Res (List Pt)} (hf : PartsWell k f) (lim : Bool) : BraceWell k (bracesM lim f) := by
  intro xs p r hg hx h
  unfold bracesM at h
  split at h
  · cases h
  · cases hp : parameterM xs with
    | error e => rw [hp] at h; cases h
    | ok a =>
      obtain ⟨l, r'⟩ := a
      rw [hp] at h
      simp only at h
      obtain ⟨h1, h2, h3⟩ := parameter_well hg hp
      obtain ⟨s1, s2, s3⟩ := parameter_suf hp
      split at h
      · obtain ⟨_, rfl⟩ := close_less h
        refine ⟨rfl, ?_, Small.nil⟩
        unfold varT
        simp [h2]
      · cases hq : operationM f l r' with
        | error e => rw [hq] at h; cases h
        | ok b =>
          obtain ⟨p', r2⟩ := b
          rw [hq] at h
          simp only at h
          obtain ⟨_, rfl⟩ := close_less h
          exact operation_well hf (s1.good hg) (by omega) ⟨h1, h2⟩ hq
theorem more_128 {c : Nat} (h : moreR c = true) : c < 128 := by
  unfold moreR firstR at h
  simp only [Bool.or_eq_true, decide_eq_true_eq] at h
  omega
theorem treckons_low {c : Nat} (h : reckons c = true) : c < 128 := by
  unfold reckons at h
  simp only [Bool.or_eq_true, beq_iff_eq] at h
  rcases h with h | h
  · exact more_128 h
  · omega
theorem arith_word : ∀ (xs : List Nat) (n : Nat) (acc l r : List Nat), arithM xs n acc = .ok (l, r) → ∃ m, l = acc ++ m ∧ arithT (enc m) n = true
  | [], _, _, _, _, h => by cases h
  | c :: r, n, acc, l, r', h => by
    rw [arithM] at h
    split at h
    · rename_i hc
      split at h
      · cases h
        exact ⟨[], by simp, by rw [hc.1]; rfl⟩
      · cases h
    · rename_i hc
      split at h
      · rename_i hr
        obtain ⟨m, rfl, hm⟩ := arith_word r _ _ _ _ h
        refine ⟨c :: m, by simp, ?_⟩
        have h1 := treckons_low hr
        rw [enc, teb_low h1, List.singleton_append, arithT]
        by_cases h40 : c = 40
        · subst h40
          rw [if_pos rfl] at hm
          rw [if_pos (by decide)]
          exact hm
        · have e40 : ¬ UInt8.ofNat c = 40 := fun e => h40 (by
            have := congrArg UInt8.toNat e
            rw [byte_of c (by omega)] at this
            exact this)
          rw [if_neg h40] at hm
          rw [if_neg e40]
          by_cases h41 : c = 41
          · subst h41
            rw [if_pos rfl] at hm
            rw [if_pos (by decide), hm]
            have hn : ¬ n = 0 := fun e => hc ⟨e, rfl⟩
            simp [hn]
          · have e41 : ¬ UInt8.ofNat c = 41 := fun e => h41 (by
              have := congrArg UInt8.toNat e
              rw [byte_of c (by omega)] at this
              exact this)
            rw [if_neg h41] at hm
            rw [if_neg e41, hm, Bool.and_true]
            have h2 := low_in (fun c => !reckons c || reckT (UInt8.ofNat c)) (by decide +kernel) h1
            simpa [hr] using h2
      · cases h

/-! ### the lexer's steps -/
theorem escaped_well {k : Nat} {wi : Bool} {xs ys : List Nat} {ps qs : List Pt} (hg : ∀ c ∈ xs, GoodL c) (hw : Well k wi ps) (h : escapedM xs ps = .ok (qs, ys)) : Well k wi qs ∧ qs ≠ [] := by
  unfold escapedM at h
  cases ht : xs.tail with
  | nil => rw [ht] at h; cases h
  | cons c r =>
    rw [ht] at h
    cases h
    have hc : GoodL c := hg c (List.mem_of_mem_tail (by rw [ht]; simp))
    exact ⟨hw.lit (quoted_lit (fun x hx => by
      obtain rfl : x = c := by simpa using hx
      exact hc)), lit_ne _ _ _⟩
theorem single_well {k : Nat} {wi : Bool} {xs ys : List Nat} {ps qs : List Pt} (hg : ∀ c ∈ xs, GoodL c) (hw : Well k wi ps) (h : singleM xs ps = .ok (qs, ys)) : Well k wi qs ∧ qs ≠ [] := by
  unfold singleM at h
  split at h
  · cases h
  · cases h
    exact ⟨hw.lit (quoted_lit (got_all fun c hc => hg c (List.mem_of_mem_tail hc))), lit_ne _ _ _⟩
theorem good_lits {a : Nat} (h : 0 < a ∧ a < 128) : ∀ c ∈ [a], GoodL c := fun c hc => by
  obtain rfl : c = a := by simpa using hc
  unfold GoodL; omega
theorem enc_one {a : Nat} (h : a < 128) : enc [a] = [UInt8.ofNat a] := by rw [enc, teb_low h]; rfl
theorem dollar_well {k : Nat} {wi : Bool} {br : List Nat → Res Pt} (hb : BraceWell k br) {q : Bool} {xs ys : List Nat} {ps qs : List Pt} (hg : ∀ c ∈ xs, GoodL c) (hx : xs.length ≤ 4000) (hw : Well k wi ps) (h : dollarM br q xs ps = .ok (qs, ys)) : Well k wi qs ∧ qs ≠ [] := by
  have hgt : ∀ c ∈ xs.tail, GoodL c := fun c hc => hg c (List.mem_of_mem_tail hc)
  have hxt : xs.tail.length ≤ 4000 := by rw [List.length_tail]; omega
  unfold dollarM at h
  split at h
  · rename_i r hs
    have h1 := takes_less hs (by decide)
    cases hp : br r with
    | error e => rw [hp] at h; cases h
    | ok a =>
      obtain ⟨p, r'⟩ := a
      rw [hp] at h
      cases h
      obtain ⟨h2, h3, h4⟩ := hb r p _ (h1.1.good hgt) (by have := h1.2; omega) hp
      refine ⟨hw.add (p := { p with q := q }) ?_ (one_not (by rw [show Pt.kind { p with q := q } = 2 from h2]; rfl)) h4, by simp⟩
      unfold partT
      have e1 : ¬ Pt.kind { p with q := q } = 1 := by rw [show Pt.kind { p with q := q } = 2 from h2]; decide
      rw [if_neg e1, if_pos (show Pt.kind { p with q := q } = 2 from h2)]
      exact h3
  · split at h
    · rename_i r hs
      cases hp : arithM r 0 [] with
      | error e => rw [hp] at h; cases h
      | ok a =>
        obtain ⟨l, r'⟩ := a
        rw [hp] at h
        cases h
        obtain ⟨m, rfl, hm⟩ := arith_word _ _ _ _ _ hp
        refine ⟨hw.add ?_ (one_not rfl) Small.nil, by simp⟩
        unfold partT
        rw [if_neg (show ¬ (3 : Int) = 1 by decide), if_neg (show ¬ (3 : Int) = 2 by decide), if_pos rfl]
        simpa using hm
    · split at h
      · cases hp : parameterM xs.tail with
        | error e => rw [hp] at h; cases h
        | ok a =>
          obtain ⟨l, r'⟩ := a
          rw [hp] at h
          cases h
          obtain ⟨h1, h2, h3⟩ := parameter_well hgt hp
          refine ⟨hw.add ?_ (one_not rfl) Small.nil, by simp⟩
          unfold partT
          rw [if_neg (show ¬ (2 : Int) = 1 by decide), if_pos rfl]
          unfold varT
          simp [h2]
      · cases h
        have := quoted_lit (wi := wi) (good_lits (a := 36) (by decide))
        rw [enc_one (by decide)] at this
        exact ⟨hw.lit this, lit_ne _ _ _⟩
theorem within_well {k : Nat} {wi : Bool} {br : List Nat → Res Pt} (hb : BraceWell k br) {xs ys : List Nat} {ps qs : List Pt} (hg : ∀ c ∈ xs, GoodL c) (hx : xs.length ≤ 4000) (hw : Well k wi ps) (h : withinM br xs ps = .ok (qs, ys)) : Well k wi qs ∧ qs ≠ [] := by
  unfold withinM at h
  split at h
  · cases h
  · split at h
    · unfold escapedWithinM at h
      cases ht : xs.tail with
      | nil => rw [ht] at h; cases h
      | cons c r =>
        rw [ht] at h
        cases h
        have hc : GoodL c := hg c (List.mem_of_mem_tail (by rw [ht]; simp))
        have h92 := quoted_lit (wi := wi) (good_lits (a := 92) (by decide))
        rw [enc_one (by decide)] at h92
        have hw2 : Well k wi (if acts c = true then ps else lit ps [92] true) := by
          split
          · exact hw
          · exact hw.lit h92
        exact ⟨hw2.lit (quoted_lit (fun x hx => by
          obtain rfl : x = c := by simpa using hx
          exact hc)), lit_ne _ _ _⟩
    · split at h
      · exact dollar_well hb hg hx hw h
      · cases h
        exact ⟨hw.lit (quoted_lit (got_all hg)), lit_ne _ _ _⟩
theorem doubleL_well {k : Nat} {wi : Bool} {br : List Nat → Res Pt} (hb : BraceWell k br) (ho : BraceOk br) : ∀ (f : Nat) (xs ys : List Nat) (ps qs : List Pt), (∀ c ∈ xs, GoodL c) → xs.length ≤ 4000 → Well k wi ps → doubleL br f xs ps = .ok (qs, ys) → Well k wi qs ∧ (ps ≠ [] → qs ≠ [])
  | 0, _, _, _, _, _, _, _, h => by cases h
  | f + 1, xs, ys, ps, qs, hg, hx, hw, h => by
    rw [doubleL] at h
    split at h
    · cases h; exact ⟨hw, id⟩
    · rename_i hs
      cases hq : withinM br xs ps with
      | error e => rw [hq] at h; cases h
      | ok a =>
        obtain ⟨ps', xs'⟩ := a
        rw [hq] at h
        simp only at h
        have hn : next xs ≠ 34 := fun e => by
          rw [takes_one, if_pos ⟨e, fun e' => by rw [e'] at e; cases e⟩] at hs
          cases hs
        have hl := (within_less ho hq hn).1
        obtain ⟨h1, h2⟩ := within_well hb hg hx hw hq
        obtain ⟨h3, h4⟩ := doubleL_well hb ho f xs' ys ps' qs (hl.1.good hg) (by have := hl.2; omega) h1 h
        exact ⟨h3, fun _ => h4 h2⟩
theorem within_some {br : List Nat → Res Pt} (f : Nat) {xs ys : List Nat} {ps qs : List Pt} (hn : next xs ≠ 34) (h : doubleL br (f + 1) xs ps = .ok (qs, ys)) : ∃ ps' xs', withinM br xs ps = .ok (ps', xs') ∧ doubleL br f xs' ps' = .ok (qs, ys) := by
  rw [doubleL, takes_one, if_neg (fun e => hn e.1)] at h
  simp only at h
  cases hq : withinM br xs ps with
  | error e => rw [hq] at h; cases h
  | ok a =>
    obtain ⟨ps', xs'⟩ := a
    rw [hq] at h
    exact ⟨ps', xs', rfl, h⟩
theorem double_well {k : Nat} {wi : Bool} {br : List Nat → Res Pt} (hb : BraceWell k br) (ho : BraceOk br) {xs ys : List Nat} {ps qs : List Pt} (hg : ∀ c ∈ xs, GoodL c) (hx : xs.length ≤ 4000) (hw : Well k wi ps) (h : doubleM br xs ps = .ok (qs, ys)) : Well k wi qs ∧ qs ≠ [] := by
  have hgt : ∀ c ∈ xs.tail, GoodL c := fun c hc => hg c (List.mem_of_mem_tail hc)
  have hxt : xs.tail.length ≤ 4000 := by rw [List.length_tail]; omega
  unfold doubleM at h
  by_cases hn : next xs.tail = 34
  · rw [if_pos hn] at h
    have h0 := quoted_lit (wi := wi) (l := []) (fun c hc => by cases hc)
    obtain ⟨h1, h2⟩ := doubleL_well hb ho _ _ _ _ _ hgt hxt (hw.lit h0) h
    exact ⟨h1, h2 (lit_ne _ _ _)⟩
  · rw [if_neg hn] at h
    obtain ⟨ps', xs', h1, h2⟩ := within_some _ hn h
    have hl := (within_less ho h1 hn).1
    obtain ⟨h3, h4⟩ := within_well hb hgt hxt hw h1
    obtain ⟨h5, h6⟩ := doubleL_well hb ho _ _ _ _ _ (hl.1.good hgt) (by have := hl.2; omega) h3 h2
    exact ⟨h5, h6 h4⟩
theorem part_well {k : Nat} {wi : Bool} {br : List Nat → Res Pt} (hb : BraceWell k br) (ho : BraceOk br) {xs ys : List Nat} {ps qs : List Pt} (hg : ∀ c ∈ xs, GoodL c) (hx : xs.length ≤ 4000) (hn : next xs ≠ 0) (he : ends (next xs) wi = false) (hw : Well k wi ps) (h : partM br wi xs ps = .ok (qs, ys)) : Well k wi qs ∧ qs ≠ [] := by
  unfold partM at h
  split at h
  · exact escaped_well hg hw h
  · split at h
    · exact single_well hg hw h
    · split at h
      · exact double_well hb ho hg hx hw h
      · split at h
        · exact dollar_well hb hg hx hw h
        · rename_i h1 h2 h3 h4
          cases h
          refine ⟨hw.lit (bare_lit (got_all hg) ?_ (got_mem _ _)), lit_ne _ _ _⟩
          cases xs with
          | nil => exact absurd rfl hn
          | cons c r =>
            simp only [next] at he h1 h2 h3 h4
            have ha : (begins c || ends c wi) = false := by simp [begins, acts, h1, h2, h3, h4, he]
            unfold got
            rw [ha]
            simp
theorem partsL_well {k : Nat} {wi : Bool} {br : List Nat → Res Pt} (hb : BraceWell k br) (ho : BraceOk br) : ∀ (f : Nat) (xs ys : List Nat) (ps qs : List Pt), (∀ c ∈ xs, GoodL c) → xs.length ≤ 4000 → Well k wi ps → Fits xs ps → partsL br wi f xs ps = .ok (qs, ys) → Well k wi qs ∧ Fits ys qs ∧ (ps ≠ [] → qs ≠ [])
  | 0, _, _, _, _, _, _, _, _, h => by cases h
  | f + 1, xs, ys, ps, qs, hg, hx, hw, hf, h => by
    rw [partsL] at h
    split at h
    · cases h; exact ⟨hw, hf, id⟩
    · rename_i hc
      have hn : next xs ≠ 0 := fun e => hc (.inl e)
      have he : ends (next xs) wi = false := by
        cases hh : ends (next xs) wi with
        | true => exact absurd (.inr hh) hc
        | false => rfl
      cases hq : partM br wi xs ps with
      | error e => rw [hq] at h; cases h
      | ok a =>
        obtain ⟨ps', xs'⟩ := a
        rw [hq] at h
        simp only at h
        obtain ⟨hl, hl2⟩ := part_less ho hq hn he
        obtain ⟨h1, h2⟩ := part_well hb ho hg hx hn he hw hq
        obtain ⟨h3, h4, h5⟩ := partsL_well hb ho f xs' ys ps' qs (hl.1.good hg) (by have := hl.2; omega) h1 (hl2 hf) h
        exact ⟨h3, h4, fun _ => h5 h2⟩
theorem Well.row {k : Nat} {wi : Bool} {xs : List Nat} {ps : List Pt} (h : Well k wi ps) (hf : Fits xs ps) (hwi : wi = decide (k < 20)) : rowT (k + 1) ps = true ∧ Small ps := by
  refine ⟨?_, .mk ps (fun q hq => ?_) h.small⟩
  · rw [rowT, ← hwi]; exact h.side
  · have := hf.2 q hq; omega
theorem parts_well : ∀ d, PartsWell (d + 1) (partsM d)
  | 0 => fun xs ps r hg hx h => by
    have hb : BraceWell 0 (bracesM true fun _ => .error 0) := fun xs p r _ _ h => by unfold bracesM at h; simp at h
    obtain ⟨h1, h2, _⟩ := partsL_well hb (braces_ok (f := fun _ => .error 0) (fun _ _ _ h => by cases h) true) _ _ _ _ _ hg hx (Well.nil 0 true) (Fits.nil xs hx) h
    exact h1.row h2 (by decide)
  | d + 1 => fun xs ps r hg hx h => by
    obtain ⟨h1, h2, _⟩ := partsL_well (braces_well (parts_well d) false) (braces_ok (parts_ok d) false) _ _ _ _ _ hg hx (Well.nil (d + 1) (decide (d < 19))) (Fits.nil xs hx) h
    exact h1.row h2 (decide_eq_decide.2 (by omega))

/-! ### tokens -/
theorem begin_ends {xs : List Nat} (hx : xs ≠ []) (hs : signM signs xs = none) (ha : next xs ≠ 38) (h32 : next xs ≠ 32) (h9 : next xs ≠ 9) : ends (next xs) false = false := by
  have h1 : ∀ c, [c] ∈ signs → next xs ≠ c := fun c hc => (sign_none signs xs c hs hc).resolve_right hx
  have a1 := h1 59 (by decide)
  have a2 := h1 124 (by decide)
  have a3 := h1 40 (by decide)
  have a4 := h1 41 (by decide)
  have a5 := h1 62 (by decide)
  have a6 := h1 60 (by decide)
  have a7 := h1 10 (by decide)
  unfold ends blankR
  simp only [Bool.false_eq_true, ↓reduceIte, Bool.or_eq_false_iff, beq_eq_false_iff_ne, decide_eq_false_iff_not]
  omega
theorem token_word {n : Nat} {xs r : List Nat} {t : Tk} (hg : ∀ c ∈ xs, GoodL c) (hl : xs.length ≤ 4000) (hx : xs ≠ []) (h32 : next xs ≠ 32) (h9 : next xs ≠ 9) (h : tokenM n xs = .ok (t, r)) : t.kind = 1 → wordT t.word = true ∧ Small t.word := by
  unfold tokenM at h
  split at h
  · cases h; intro e; cases e
  · rename_i hs
    split at h
    · cases h
    · rename_i ha
      cases hp : partsM 20 xs with
      | error e => rw [hp] at h; cases h
      | ok a =>
        obtain ⟨ps, r'⟩ := a
        rw [hp] at h
        cases h
        intro _
        obtain ⟨h1, h2⟩ := parts_well 20 xs ps _ hg hl hp
        refine ⟨?_, h2⟩
        unfold wordT
        rw [show rowT 21 ps = true from h1, Bool.and_true]
        have he := begin_ends hx hs ha h32 h9
        have hn : next xs ≠ 0 := fun e => hx ((next_zero hg).1 e)
        have hq : partsL (bracesM false (partsM 19)) false (xs.length + 1) xs [] = .ok (ps, r) := hp
        rw [partsL, if_neg (by rw [he]; simpa using hn)] at hq
        cases hw : partM (bracesM false (partsM 19)) false xs [] with
        | error e => rw [hw] at hq; cases hq
        | ok a =>
          obtain ⟨ps', xs'⟩ := a
          rw [hw] at hq
          simp only at hq
          have hb := braces_well (parts_well 19) false
          have ho := braces_ok (parts_ok 19) false
          obtain ⟨hl1, hl2⟩ := part_less ho hw hn he
          obtain ⟨k1, k2⟩ := part_well hb ho hg hl hn he (Well.nil 20 false) hw
          obtain ⟨_, _, k3⟩ := partsL_well hb ho _ _ _ _ _ (hl1.1.good hg) (by have := hl1.2; omega) k1 (hl2 (Fits.nil xs hl)) hq
          have := k3 k2
          cases ps with
          | nil => exact absurd rfl this
          | cons _ _ => rfl
theorem skip_head (xs : List Nat) (hx : skipM xs ≠ []) : next (skipM xs) ≠ 32 ∧ next (skipM xs) ≠ 9 := by
  unfold skipM at hx ⊢
  split
  · rename_i h
    rw [if_pos h] at hx
    rcases left_head (fun r => r == 10) (left (fun r => r != 32 && r != 9) xs) with h1 | h1
    · exact absurd h1 hx
    · have : next (left (fun r => r == 10) (left (fun r => r != 32 && r != 9) xs)) = 10 := by simpa using h1
      rw [this]; decide
  · rename_i h
    rw [if_neg h] at hx
    rcases left_head (fun r => r != 32 && r != 9) xs with h1 | h1
    · exact absurd h1 hx
    · simpa using h1
theorem tskip_suf (xs : List Nat) : Suf xs (skipM xs) := by
  unfold skipM
  split
  · exact (Suf.left _ _).trans (Suf.left _ _)
  · exact Suf.left _ _
theorem tokens_words {sz : Nat} : ∀ (f : Nat) (xs : List Nat) (l ts : List Tk), (∀ c ∈ xs, GoodL c) → xs.length ≤ 4000 → tokensL sz f xs l = .ok ts → (∀ t ∈ l, t.kind = 1 → wordT t.word = true ∧ Small t.word) → ∀ t ∈ ts, t.kind = 1 → wordT t.word = true ∧ Small t.word
  | 0, _, _, _, _, _, h, _ => by cases h
  | f + 1, xs, l, ts, hg, hx, h, hl => by
    by_cases hk : skipM xs = []
    · rw [tokensL_end hk] at h
      cases h
      intro t ht
      rcases List.mem_append.1 ht with ht | ht
      · exact hl t ht
      · obtain rfl : t = _ := by simpa using ht
        intro e; cases e
    · cases ht : tokenM (sz - (enc (skipM xs)).length) (skipM xs) with
      | error e => rw [tokensL_bad hk ht] at h; cases h
      | ok a =>
        obtain ⟨t, r⟩ := a
        rw [tokensL_go hk ht] at h
        have hsu := tskip_suf xs
        obtain ⟨h32, h9⟩ := skip_head xs hk
        have hgs := hsu.good hg
        have hls : (skipM xs).length ≤ 4000 := by have := hsu.len; omega
        have hw := token_word hgs hls hk h32 h9 ht
        have hr := token_less hgs hk h32 h9 ht
        refine tokens_words f r (l ++ [t]) ts (hr.1.1.good hgs) (by have := hr.1.2; omega) h fun x hx => ?_
        rcases List.mem_append.1 hx with hx | hx
        · exact hl x hx
        · obtain rfl : x = t := by simpa using hx
          exact hw
end Go.Proofs.YtakceggnadagmaaGreatDoor

namespace Go.Proofs.YtakceggnadagmaaGreatDoor
open Go Go.Lib GlyphMath LexMath TreeMath ParseMath

theorem parts20 {xs r : List Nat} {ps : List Pt} (hg : ∀ c ∈ xs, GoodL c) (hx : xs.length ≤ 4000) (h : partsM 20 xs = .ok (ps, r)) : ps.length ≤ 4000 := by
  obtain ⟨_, h2, _⟩ := partsL_well (braces_well (parts_well 19) false) (braces_ok (parts_ok 19) false) _ _ _ _ _ hg hx (Well.nil 20 (decide (19 < 19))) (Fits.nil xs hx) h
  have := h2.1
  omega
theorem sign_mem : ∀ {l : List (List Nat)} {xs p r : List Nat}, signM l xs = some (p, r) → p ∈ l
  | [], _, _, _, h => by cases h
  | q :: l, xs, p, r, h => by
    rw [signM] at h
    split at h
    · cases h; exact List.mem_cons_self ..
    · exact List.mem_cons_of_mem _ (sign_mem h)
theorem signs_B : ∀ p ∈ signs, ParseMath.signsB.contains (enc p) = true := by decide +kernel
theorem token_mid {n : Nat} {xs r : List Nat} {t : Tk} (hn : n ≤ 2000) (hg : ∀ c ∈ xs, GoodL c) (hl : xs.length ≤ 4000) (hx : xs ≠ []) (h32 : next xs ≠ 32) (h9 : next xs ≠ 9) (h : tokenM n xs = .ok (t, r)) : MidT t := by
  have hw := token_word hg hl hx h32 h9 h
  unfold tokenM at h
  split at h
  · rename_i p r' hs
    cases h
    exact ⟨hn, .inr ⟨rfl, rfl, signs_B p (sign_mem hs)⟩⟩
  · split at h
    · cases h
    · cases hp : partsM 20 xs with
      | error e => rw [hp] at h; cases h
      | ok a =>
        obtain ⟨ps, r'⟩ := a
        rw [hp] at h
        cases h
        exact ⟨hn, .inl ⟨rfl, rfl, (hw rfl).1, (hw rfl).2, parts20 hg hl hp⟩⟩
theorem tokens_row {sz : Nat} (hsz : sz ≤ 2000) : ∀ (f : Nat) (xs : List Nat) (l ts : List Tk), (∀ c ∈ xs, GoodL c) → xs.length ≤ 2000 → tokensL sz f xs l = .ok ts → ∃ r, ts = l ++ r ∧ Row r ∧ r.length ≤ xs.length + 1
  | 0, _, _, _, _, _, h => by cases h
  | f + 1, xs, l, ts, hg, hx, h => by
    by_cases hk : skipM xs = []
    · rw [tokensL_end hk] at h
      cases h
      exact ⟨_, rfl, .one _ ⟨rfl, rfl, rfl, hsz⟩, by simp⟩
    · cases ht : tokenM (sz - (enc (skipM xs)).length) (skipM xs) with
      | error e => rw [tokensL_bad hk ht] at h; cases h
      | ok a =>
        obtain ⟨t, r⟩ := a
        rw [tokensL_go hk ht] at h
        have hsu := tskip_suf xs
        obtain ⟨h32, h9⟩ := skip_head xs hk
        have hgs := hsu.good hg
        have hln := hsu.len
        have hm := token_mid (by omega) hgs (by omega) hk h32 h9 ht
        have hr := token_less hgs hk h32 h9 ht
        obtain ⟨q, e, hq, hql⟩ := tokens_row hsz f r (l ++ [t]) ts (hr.1.1.good hgs) (by have := hr.1.2; omega) h
        refine ⟨t :: q, by rw [e, List.append_assoc]; rfl, .more t q hm hq, ?_⟩
        have := hr.1.2
        rw [List.length_cons]
        omega
/-- A parser's beginning. -/
theorem tokens_good {sz f : Nat} {xs : List Nat} {ts : List Tk} (hsz : sz ≤ 2000) (hg : ∀ c ∈ xs, GoodL c) (hx : xs.length ≤ 2000) (h : tokensL sz f xs [] = .ok ts) : GoodS ⟨ts, 0, 0⟩ := by
  obtain ⟨r, e, hr, hl⟩ := tokens_row hsz f xs [] ts hg hx h
  rw [List.nil_append] at e
  subst e
  exact ⟨hr, by dsimp only; omega, Nat.zero_le _, Nat.zero_le _⟩
end Go.Proofs.YtakceggnadagmaaGreatDoor
