/-
  Proved: texts joined: Proved: a lexer that goes letter by letter comes to what one comes to that goes run by run; bytes of letters, places in a text. Conditions: as each says.
  Proved: the statements' own lexer in memory; its calls fail and at. Conditions: it lies in memory.
  Proved: the statements' own sets of letters. Conditions: none.
  Proved: the statements' own lexer takes a name, a parameter. Conditions: it lies in memory; the text's letters are good.
  Proved: the statements' own lexer takes the letters of an Arith. Conditions: it lies in memory; the text's letters are good.
  Proved: a row of parts as a value; the statements' own lit. Conditions: the row lies in memory, and its texts are short.
  Proved: the statements' own lexer takes what stands in single quotes. Conditions: it lies in memory, beside a row of parts; the text's letters are good.
  Proved: the statements' own lexer takes a letter. Conditions: it lies in memory; the text's letters are good.
  Proved: the statements' own lexer takes what stands in double quotes, of whatever dollar. Conditions: it lies in memory, beside a row of parts; the text's letters are good.
  Proved: the statements' own lexer takes what begins with a dollar, of whatever braces. Conditions: it lies in memory, beside a row of parts; the text's letters are good.
  Proved: the statements' own lexer takes a word's parts, of whatever dollar. Conditions: it lies in memory; the text's letters are good.
-/
import Derived.Test.YtloaalapkmbgeaaDoorLexFit
import Derived.Test.YtloaalapkmbgeaaDoorLexCore
import Derived.Test.YtloaalapkmbgeaaDoorGlyphRefN
import Derived.Deep.QuietTactic
import Derived.BigQuiet
import Derived.LoopTactic
import Derived.Test.YtloaalapkmbgeaaDoorGlyphRLet
import Derived.Deep.RegionHeld
namespace Go.Proofs.YtloaalapkmbgeaaDoor.LexMath
open Go Go.Lib GlyphMath

theorem lit_lit (ps : List Pt) (a b : List UInt8) (q : Bool) : lit (lit ps a q) b q = lit ps (a ++ b) q := by
  rcases List.eq_nil_or_concat ps with rfl | ⟨r, p, rfl⟩
  · simp [lit]
  · rw [List.concat_eq_append, lit_last, lit_last]
    split
    · rename_i h
      rw [lit_last, if_pos h]
      simp
    · rw [lit_last, if_pos ⟨rfl, rfl⟩]
theorem not34 {ys : List Nat} (h : takes [34] ys = none) : next ys ≠ 34 := fun e => by
  rw [takes_one, if_pos ⟨e, fun e' => by rw [e'] at e; cases e⟩] at h
  cases h
theorem is34 {ys : List Nat} (h : next ys ≠ 34) : takes [34] ys = none := by
  rw [takes_one, if_neg fun e => h e.1]

theorem partsL_fuel {br : List Nat → Res Pt} (hb : BraceOk br) {deep : Bool} : ∀ (f g : Nat) (xs : List Nat) (ps : List Pt), xs.length < f → xs.length < g → partsL br deep f xs ps = partsL br deep g xs ps
  | 0, _, _, _, h, _ => by omega
  | _ + 1, 0, _, _, _, h => by omega
  | f + 1, g + 1, xs, ps, hf, hg => by
    rw [partsL, partsL]
    by_cases hc : next xs = 0 ∨ ends (next xs) deep = true
    · rw [if_pos hc, if_pos hc]
    · rw [if_neg hc, if_neg hc]
      cases hp : partM br deep xs ps with
      | error e => rfl
      | ok a =>
        obtain ⟨ps', xs'⟩ := a
        simp only
        have h1 := (part_less hb hp (fun h => hc (.inl h)) (by cases he : ends (next xs) deep; rfl; exact absurd (.inr he) hc)).1.2
        exact partsL_fuel hb f g xs' ps' (by omega) (by omega)
theorem doubleL_fuel {br : List Nat → Res Pt} (hb : BraceOk br) : ∀ (f g : Nat) (xs : List Nat) (ps : List Pt), xs.length < f → xs.length < g → doubleL br f xs ps = doubleL br g xs ps
  | 0, _, _, _, h, _ => by omega
  | _ + 1, 0, _, _, _, h => by omega
  | f + 1, g + 1, xs, ps, hf, hg => by
    rw [doubleL, doubleL]
    cases ht : takes [34] xs with
    | some r => rfl
    | none =>
      simp only
      cases hp : withinM br xs ps with
      | error e => rfl
      | ok a =>
        obtain ⟨ps', xs'⟩ := a
        simp only
        have h1 := (within_less hb hp (not34 ht)).1.2
        exact doubleL_fuel hb f g xs' ps' (by omega) (by omega)

theorem enc_one (c : Nat) : enc [c] = eb c := by simp [enc]
/-- One letter of a run of mere letters. -/
theorem parts_one {br : List Nat → Res Pt} (hb : BraceOk br) {deep : Bool} {f c : Nat} {r : List Nat} {ps : List Pt} (hg : ∀ x ∈ c :: r, GoodL x) (h1 : begins c = false) (h2 : ends c deep = false) (hf : r.length + 1 < f + 1) :
    partsL br deep (f + 1) (c :: r) ps = partsL br deep f r (lit ps (eb c) false) := by
  have h0 : c ≠ 0 := by have := (hg c (by simp)).1; omega
  have hn : c ≠ 92 ∧ c ≠ 39 ∧ c ≠ 34 ∧ c ≠ 36 := by
    simp only [begins, acts, Bool.or_eq_false_iff, beq_eq_false_iff_ne, ne_eq] at h1
    omega
  have e1 : ∀ (f : Nat) (c : Nat) (r : List Nat) (ps : List Pt), c ≠ 0 → begins c = false → ends c deep = false → c ≠ 92 ∧ c ≠ 39 ∧ c ≠ 34 ∧ c ≠ 36 →
      partsL br deep (f + 1) (c :: r) ps = partsL br deep f (left (fun r => begins r || ends r deep) (c :: r)) (lit ps (enc (got (fun r => begins r || ends r deep) (c :: r))) false) := by
    intro f c r ps h0 h1 h2 hn
    have hp : partM br deep (c :: r) ps = .ok (lit ps (enc (got (fun r => begins r || ends r deep) (c :: r))) false, left (fun r => begins r || ends r deep) (c :: r)) := by
      unfold partM
      rw [if_neg (show ¬ next (c :: r) = 92 from hn.1), if_neg (show ¬ next (c :: r) = 39 from hn.2.1), if_neg (show ¬ next (c :: r) = 34 from hn.2.2.1), if_neg (show ¬ next (c :: r) = 36 from hn.2.2.2)]
    rw [partsL, if_neg (by simp [next, h0, h2]), hp]
  rw [e1 f c r ps h0 h1 h2 hn]
  have g1 : got (fun r => begins r || ends r deep) (c :: r) = c :: got (fun r => begins r || ends r deep) r := by rw [got, h1, h2]; rfl
  have g2 : left (fun r => begins r || ends r deep) (c :: r) = left (fun r => begins r || ends r deep) r := by rw [left, h1, h2]; rfl
  rw [g1, g2]
  cases r with
  | nil => simp [got, left, enc]
  | cons c2 r2 =>
    cases hS2 : (fun r => begins r || ends r deep) c2 with
    | true =>
      rw [show got (fun r => begins r || ends r deep) (c2 :: r2) = [] from by rw [got]; exact if_pos hS2, show left (fun r => begins r || ends r deep) (c2 :: r2) = c2 :: r2 from by rw [left]; exact if_pos hS2, enc_one]
    | false =>
      obtain ⟨g, rfl⟩ : ∃ g, f = g + 1 := ⟨f - 1, by omega⟩
      have k1 : begins c2 = false ∧ ends c2 deep = false := by simpa using hS2
      have hn2 : c2 ≠ 92 ∧ c2 ≠ 39 ∧ c2 ≠ 34 ∧ c2 ≠ 36 := by
        have := k1.1
        simp only [begins, acts, Bool.or_eq_false_iff, beq_eq_false_iff_ne, ne_eq] at this
        omega
      rw [e1 g c2 r2 (lit ps (eb c) false) (by have := (hg c2 (by simp)).1; omega) k1.1 k1.2 hn2, lit_lit]
      have hl := left_lt (fun r => begins r || ends r deep) c2 r2 hS2
      rw [show enc (c :: got (fun r => begins r || ends r deep) (c2 :: r2)) = eb c ++ enc (got (fun r => begins r || ends r deep) (c2 :: r2)) from rfl]
      simp only [List.length_cons] at hf hl
      exact partsL_fuel hb _ _ _ _ (by omega) (by omega)
theorem double_one {br : List Nat → Res Pt} (hb : BraceOk br) {f c : Nat} {r : List Nat} {ps : List Pt} (hg : ∀ x ∈ c :: r, GoodL x) (h1 : acts c = false) (hf : r.length + 1 < f + 1) :
    doubleL br (f + 1) (c :: r) ps = doubleL br f r (lit ps (eb c) true) := by
  have e1 : ∀ (f : Nat) (c : Nat) (r : List Nat) (ps : List Pt), c ≠ 0 → acts c = false → doubleL br (f + 1) (c :: r) ps = doubleL br f (left acts (c :: r)) (lit ps (enc (got acts (c :: r))) true) := by
    intro f c r ps h0 h1
    have hn : c ≠ 34 ∧ c ≠ 36 ∧ c ≠ 92 := by
      simp only [acts, Bool.or_eq_false_iff, beq_eq_false_iff_ne, ne_eq] at h1
      omega
    have hp : withinM br (c :: r) ps = .ok (lit ps (enc (got acts (c :: r))) true, left acts (c :: r)) := by
      unfold withinM
      rw [if_neg (show ¬ next (c :: r) = 0 from h0), if_neg (show ¬ next (c :: r) = 92 from hn.2.2), if_neg (show ¬ next (c :: r) = 36 from hn.2.1)]
    rw [doubleL, is34 (show next (c :: r) ≠ 34 from hn.1), hp]
  rw [e1 f c r ps (by have := (hg c (by simp)).1; omega) h1]
  have g1 : got acts (c :: r) = c :: got acts r := by rw [got, h1]; rfl
  have g2 : left acts (c :: r) = left acts r := by rw [left, h1]; rfl
  rw [g1, g2]
  cases r with
  | nil => simp [got, left, enc]
  | cons c2 r2 =>
    cases hS2 : acts c2 with
    | true =>
      rw [show got acts (c2 :: r2) = [] by rw [got, hS2]; rfl, show left acts (c2 :: r2) = c2 :: r2 by rw [left, hS2]; rfl, enc_one]
    | false =>
      obtain ⟨g, rfl⟩ : ∃ g, f = g + 1 := ⟨f - 1, by omega⟩
      rw [e1 g c2 r2 (lit ps (eb c) true) (by have := (hg c2 (by simp)).1; omega) hS2, lit_lit]
      have hl := left_lt acts c2 r2 hS2
      rw [show enc (c :: got acts (c2 :: r2)) = eb c ++ enc (got acts (c2 :: r2)) from rfl]
      simp only [List.length_cons] at hf hl
      exact doubleL_fuel hb _ _ _ _ (by omega) (by omega)

/-! ### Bytes -/
/-- A letter's first byte, and those behind it. -/
def fb (c : Nat) : Nat := if c < 128 then c else if c < 2048 then 192 + c / 64 else if c < 65536 then 224 + c / 4096 else 240 + c / 262144
def tb (c : Nat) : List UInt8 :=
  if c < 128 then [] else if c < 2048 then [UInt8.ofNat (128 + c % 64)]
  else if c < 65536 then [UInt8.ofNat (128 + c / 64 % 64), UInt8.ofNat (128 + c % 64)]
  else [UInt8.ofNat (128 + c / 4096 % 64), UInt8.ofNat (128 + c / 64 % 64), UInt8.ofNat (128 + c % 64)]
theorem eb_split (c : Nat) : eb c = UInt8.ofNat (fb c) :: tb c := by
  unfold eb fb tb
  repeat' split
  all_goals first | rfl | omega
theorem tb_mid (c : Nat) : ∀ b ∈ tb c, 128 ≤ b.toNat ∧ b.toNat < 192 := by
  have key : ∀ k, 128 ≤ (UInt8.ofNat (128 + k % 64)).toNat ∧ (UInt8.ofNat (128 + k % 64)).toNat < 192 := fun k => by rw [byte_of _ (by omega)]; omega
  unfold tb
  intro b hb
  repeat' split at hb
  all_goals simp only [List.mem_cons, List.not_mem_nil, or_false] at hb
  · rw [hb]; exact key _
  · rcases hb with rfl | rfl <;> exact key _
  · rcases hb with rfl | rfl | rfl <;> exact key _
theorem fb_facts {c : Nat} (h : GoodL c) : 0 < fb c ∧ fb c < 256 ∧ (c < 128 → fb c = c ∧ tb c = []) ∧ (128 ≤ c → 192 ≤ fb c) := by
  obtain ⟨h0, h1, -⟩ := h
  refine ⟨?_, ?_, fun hc => ?_, fun hc => ?_⟩
  · unfold fb; repeat' split
    all_goals omega
  · unfold fb; repeat' split
    all_goals omega
  · unfold fb tb; rw [if_pos hc, if_pos hc]; exact ⟨rfl, rfl⟩
  · unfold fb; repeat' split
    all_goals omega
/-- The byte that is next; 0: none. -/
def fbn : List Nat → Nat
  | [] => 0
  | c :: _ => fb c
theorem fbn_lt {xs : List Nat} (h : ∀ x ∈ xs, GoodL x) : fbn xs < 256 := by
  cases xs with
  | nil => simp [fbn]
  | cons c r => exact (fb_facts (h c (by simp))).2.1
theorem fbn_iff {xs : List Nat} (h : ∀ x ∈ xs, GoodL x) {k : Nat} (hk : k < 128) : fbn xs = k ↔ next xs = k := by
  cases xs with
  | nil => rfl
  | cons c r =>
    obtain ⟨h1, h2, h3, h4⟩ := fb_facts (h c (by simp))
    show fb c = k ↔ c = k
    by_cases hc : c < 128
    · rw [(h3 hc).1]
    · have := h4 (by omega)
      omega
theorem fbn_low {xs : List Nat} (h : ∀ x ∈ xs, GoodL x) : fbn xs = next xs ∨ (192 ≤ fbn xs ∧ 128 ≤ next xs) := by
  cases xs with
  | nil => exact .inl rfl
  | cons c r =>
    obtain ⟨h1, h2, h3, h4⟩ := fb_facts (h c (by simp))
    by_cases hc : c < 128
    · exact .inl (h3 hc).1
    · exact .inr ⟨h4 (by omega), by show 128 ≤ c; omega⟩
theorem firstR_high {n : Nat} (h : 128 ≤ n) : firstR (n : Int) = false := by
  unfold firstR; simp; omega
theorem moreR_high {n : Nat} (h : 128 ≤ n) : moreR (n : Int) = false := by
  unfold moreR; rw [firstR_high h]; simp; omega
theorem firstR_fbn {xs : List Nat} (h : ∀ x ∈ xs, GoodL x) : firstR (fbn xs : Int) = firstR (next xs : Int) := by
  rcases fbn_low h with e | ⟨e1, e2⟩
  · rw [e]
  · rw [firstR_high (by omega), firstR_high e2]
theorem moreR_fbn {xs : List Nat} (h : ∀ x ∈ xs, GoodL x) : moreR (fbn xs : Int) = moreR (next xs : Int) := by
  rcases fbn_low h with e | ⟨e1, e2⟩
  · rw [e]
  · rw [moreR_high (by omega), moreR_high e2]
theorem other_high {n : Nat} (h : 128 ≤ n) : other n = false := by
  unfold other; simp; omega
theorem other_fbn {xs : List Nat} (h : ∀ x ∈ xs, GoodL x) : other (fbn xs) = other (next xs) := by
  rcases fbn_low h with e | ⟨e1, e2⟩
  · rw [e]
  · rw [other_high (by omega), other_high e2]
theorem reckons_high {n : Nat} (h : 128 ≤ n) : reckons n = false := by
  unfold reckons; rw [moreR_high h]; simp; omega
theorem reckons_fbn {xs : List Nat} (h : ∀ x ∈ xs, GoodL x) : reckons (fbn xs) = reckons (next xs) := by
  rcases fbn_low h with e | ⟨e1, e2⟩
  · rw [e]
  · rw [reckons_high (by omega), reckons_high e2]

/-! ### Places -/
/-- At a place of a text stand these letters, to the end. -/
structure Pos (s : ByteArray) (i : Nat) (xs : List Nat) : Prop where
  rest : s.data.toList.drop i = enc xs
  le : i ≤ s.size
  good : ∀ x ∈ xs, GoodL x
theorem Pos.len {s : ByteArray} {i : Nat} {xs : List Nat} (h : Pos s i xs) : i + (enc xs).length = s.size := by
  have e := congrArg List.length h.rest
  rw [List.length_drop, Array.length_toList] at e
  have := h.le
  rw [show s.data.size = s.size from rfl] at e
  omega
theorem Pos.pass {s : ByteArray} {i : Nat} {p r : List Nat} (h : Pos s i (p ++ r)) : Pos s (i + (enc p).length) r := by
  have hl := h.len
  rw [enc_append, List.length_append] at hl
  refine ⟨?_, by omega, fun x hx => h.good x (List.mem_append_right _ hx)⟩
  rw [← List.drop_drop, h.rest, enc_append, List.drop_left]
theorem Pos.step {s : ByteArray} {i c : Nat} {r : List Nat} (h : Pos s i (c :: r)) : Pos s (i + (eb c).length) r := by
  have := Pos.pass (p := [c]) h
  rwa [enc_one] at this
theorem Pos.byte {s : ByteArray} {i : Nat} {xs : List Nat} (h : Pos s i xs) (k : Nat) : s.data.toList[i + k]? = (enc xs)[k]? := by
  rw [← h.rest, List.getElem?_drop]
theorem byte_get {s : ByteArray} {j : Nat} {b : UInt8} (h : s.data.toList[j]? = some b) : ∃ hj : j < s.size, s[j] = b := by
  obtain ⟨h1, h2⟩ := List.getElem?_eq_some_iff.1 h
  rw [Array.length_toList] at h1
  refine ⟨h1, ?_⟩
  rw [ByteArray.getElem_eq_getElem_data, ← h2, Array.getElem_toList]
theorem byte_none {s : ByteArray} {j : Nat} (h : s.data.toList[j]? = none) : s.size ≤ j := by
  have := List.getElem?_eq_none_iff.1 h
  rw [Array.length_toList] at this
  exact this
/-- The byte at a place, 0: none. -/
def byteAt (s : ByteArray) (j : Nat) : Nat := (s.data.toList[j]?).elim 0 (·.toNat)
theorem byteAt_lt (s : ByteArray) (j : Nat) : byteAt s j < 256 := by
  unfold byteAt
  cases s.data.toList[j]? with
  | none => simp
  | some b => exact b.toNat_lt
theorem byteAt_in {s : ByteArray} {j : Nat} (h : j < s.size) : byteAt s j = (s[j]).toNat := by
  unfold byteAt
  have h' : j < s.data.toList.length := by rw [Array.length_toList]; exact h
  rw [List.getElem?_eq_getElem h', Option.elim_some, Array.getElem_toList, ByteArray.getElem_eq_getElem_data]
theorem byteAt_out {s : ByteArray} {j : Nat} (h : s.size ≤ j) : byteAt s j = 0 := by
  unfold byteAt
  rw [List.getElem?_eq_none_iff.2 (by rw [Array.length_toList]; exact h)]
  rfl
theorem Pos.fbn {s : ByteArray} {i : Nat} {xs : List Nat} (h : Pos s i xs) : byteAt s i = fbn xs := by
  unfold byteAt
  have := h.byte 0
  rw [Nat.add_zero] at this
  rw [this]
  cases xs with
  | nil => rfl
  | cons c r =>
    rw [enc, eb_split]
    simp only [List.cons_append, List.getElem?_cons_zero, Option.elim_some, LexMath.fbn]
    exact byte_of _ (fb_facts (h.good c (by simp))).2.1
/-- The byte behind a letter of ASCII. -/
theorem Pos.fbn1 {s : ByteArray} {i c : Nat} {r : List Nat} (h : Pos s i (c :: r)) (hc : c < 128) : Pos s (i + 1) r := by
  have := h.step
  rw [eb_split, ((fb_facts (h.good c (by simp))).2.2.1 hc).2] at this
  exact this
theorem extract_list (s : ByteArray) (i j : Nat) : s.extract i j = ⟨((s.data.toList.drop i).take (j - i)).toArray⟩ := by
  apply ByteArray.ext
  rw [ByteArray.data_extract]
  apply Array.ext'
  simp [List.extract]
theorem Pos.extract {s : ByteArray} {i : Nat} {p r : List Nat} (h : Pos s i (p ++ r)) : s.extract i (i + (enc p).length) = ⟨(enc p).toArray⟩ := by
  rw [extract_list, h.rest, enc_append, Nat.add_sub_cancel_left, List.take_left]
/-- No byte of letters other than k is k. -/
theorem enc_not {k : Nat} (hk : k < 128) : ∀ {l : List Nat}, (∀ x ∈ l, GoodL x) → (∀ x ∈ l, x ≠ k) → ∀ b ∈ enc l, b.toNat ≠ k
  | [], _, _, b, hb => by cases hb
  | c :: r, hg, hn, b, hb => by
    rw [enc, eb_split, List.cons_append] at hb
    obtain ⟨h1, h2, h3, h4⟩ := fb_facts (hg c (by simp))
    rcases List.mem_cons.1 hb with rfl | hb
    · rw [byte_of _ h2]
      by_cases hc : c < 128
      · rw [(h3 hc).1]; exact hn c (by simp)
      · have := h4 (by omega); omega
    · rcases List.mem_append.1 hb with hb | hb
      · have := tb_mid c b hb; omega
      · exact enc_not hk (fun x hx => hg x (by simp [hx])) (fun x hx => hn x (by simp [hx])) b hb
theorem got_not {k : Nat} : ∀ (l : List Nat), ∀ x ∈ got (fun r => r == k) l, x ≠ k
  | [], x, hx => by cases hx
  | c :: r, x, hx => by
    unfold got at hx
    cases hc : (c == k) with
    | true => rw [hc] at hx; cases hx
    | false =>
      rw [hc] at hx
      rcases List.mem_cons.1 hx with rfl | hx
      · simpa using hc
      · exact got_not r x hx
/-- Within a run up to the letter k no byte is k, nor 0. -/
theorem Pos.run {s : ByteArray} {i k : Nat} {xs : List Nat} (h : Pos s i xs) (hk : k < 128) (j : Nat) (hj : j < (enc (got (fun r => r == k) xs)).length) : byteAt s (i + j) ≠ k ∧ byteAt s (i + j) ≠ 0 ∧ i + j < s.size := by
  have hx : s.data.toList[i + j]? = (enc (got (fun r => r == k) xs))[j]? := by
    rw [h.byte j]
    conv => lhs; rw [← got_left (fun r => r == k) xs, enc_append]
    exact List.getElem?_append_left hj
  have hg : ∀ x ∈ got (fun r => r == k) xs, GoodL x := fun x hx => h.good x (by rw [← got_left (fun r => r == k) xs]; exact List.mem_append_left _ hx)
  rw [List.getElem?_eq_getElem hj] at hx
  have hm := List.getElem_mem hj
  obtain ⟨h1, -⟩ := byte_get hx
  unfold byteAt
  rw [hx]
  exact ⟨enc_not hk hg (got_not xs) _ hm, enc_not (k := 0) (by omega) hg (fun x hx => by have := (hg x hx).1; omega) _ hm, h1⟩
theorem Pos.run_end {s : ByteArray} {i : Nat} {xs : List Nat} (S : Nat → Bool) (h : Pos s i xs) : Pos s (i + (enc (got S xs)).length) (left S xs) := by
  have : Pos s i (got S xs ++ left S xs) := by rw [got_left]; exact h
  exact this.pass
end Go.Proofs.YtloaalapkmbgeaaDoor.LexMath

namespace Go.Proofs.YtloaalapkmbgeaaDoor
open Go Go.RowKit GlyphMath LexMath

/-- The library's two tables lie as they should, ahead of block X. -/
structure TabsX (w : World) (X : Nat) : Prop where
  tabs : Tabs w
  l3 : 1 < X
  l4 : 2 < X
theorem Tabs.kept {D : Nat → Prop} {w w' : World} (h : Tabs w) (hk : Kept D w w') (h3 : ¬ D 1) (h4 : ¬ D 2) : Tabs w' :=
  ⟨fun c hc => hk.cell (h.1 c hc) h3, fun i hi => ⟨hk.cell (h.2 i hi).1 h4, hk.cell (h.2 i hi).2 h4⟩⟩
theorem TabsX.kept {D : Nat → Prop} {w w' : World} {X : Nat} (h : TabsX w X) (hk : Kept D w w') (hD : ∀ k, k < X → ¬ D k) : TabsX w' X :=
  ⟨h.tabs.kept hk (hD _ h.l3) (hD _ h.l4), h.l3, h.l4⟩
/-- The lexer lies in block X: a text, a place, an error. -/
structure Lx (w : World) (X : Nat) (s : ByteArray) (i e : Int) : Prop where
  blk : w.heap[X]? = some (.cells #[.string s, .int .i64 i, .int .i64 e] 58 (0, 0))
  tabs : TabsX w X
theorem Lx.c0 {w : World} {X : Nat} {s : ByteArray} {i e : Int} (h : Lx w X s i e) : w.cell? ⟨X, 0, none⟩ = some (.string s) := by rw [cell_plain h.blk]; rfl
theorem Lx.c1 {w : World} {X : Nat} {s : ByteArray} {i e : Int} (h : Lx w X s i e) : w.cell? ⟨X, 1, none⟩ = some (.int .i64 i) := by rw [cell_plain h.blk]; rfl
theorem Lx.c2 {w : World} {X : Nat} {s : ByteArray} {i e : Int} (h : Lx w X s i e) : w.cell? ⟨X, 2, none⟩ = some (.int .i64 e) := by rw [cell_plain h.blk]; rfl
theorem Lx.fz {w : World} {X : Nat} {s : ByteArray} {i e : Int} (h : Lx w X s i e) (o : Nat) : w.frozen? ⟨X, o, none⟩ = false := frozen_plain h.blk o
theorem Lx.lt {w : World} {X : Nat} {s : ByteArray} {i e : Int} (h : Lx w X s i e) : X < w.heap.size := (Array.getElem?_eq_some_iff.1 h.blk).1
theorem Lx.kept {D : Nat → Prop} {w w' : World} {X : Nat} {s : ByteArray} {i e : Int} (h : Lx w X s i e) (hk : Kept D w w') (hX : ∀ k, k ≤ X → ¬ D k) : Lx w' X s i e := ⟨hk.heap h.blk (hX X (Nat.le_refl _)), h.tabs.kept hk fun k hk => hX k (Nat.le_of_lt hk)⟩
theorem Lx.put1 {w : World} {X : Nat} {s : ByteArray} {i e : Int} (h : Lx w X s i e) (j : Int) : Lx (w.setCell ⟨X, 1, none⟩ (.int .i64 j)) X s j e := by
  refine ⟨?_, h.tabs.kept (Kept.setCell (D := fun k => k = X) (Kept.refl _ _) (.inl rfl) _) fun k hk => by omega⟩
  have h := h.blk
  simp [World.setCell, Array.getElem?_modify, h]
theorem Lx.put2 {w : World} {X : Nat} {s : ByteArray} {i e : Int} (h : Lx w X s i e) (j : Int) : Lx (w.setCell ⟨X, 2, none⟩ (.int .i64 j)) X s i j := by
  refine ⟨?_, h.tabs.kept (Kept.setCell (D := fun k => k = X) (Kept.refl _ _) (.inl rfl) _) fun k hk => by omega⟩
  have h := h.blk
  simp [World.setCell, Array.getElem?_modify, h]
theorem Lx.drewN {w : World} {X : Nat} {s : ByteArray} {i e : Int} (h : Lx w X s i e) (m : Nat) : Lx (w.drewN m) X s i e :=
  ⟨h.blk, h.tabs.kept (D := fun _ => False) ⟨rfl, rfl, rfl, Nat.le_refl _, fun _ _ _ => rfl⟩ fun _ _ h => h⟩
theorem Kept.drewN {D : Nat → Prop} {a w : World} (h : Kept D a w) (m : Nat) : Kept D a (w.drewN m) := ⟨h.os, h.tape, h.output, h.size, h.block⟩

theorem rfail_no {w : World} {X : Nat} {s : ByteArray} {i : Int} (h : Lx w X s i 0) (c : Int) :
    Calls Tryd.prog 23 #[.pointer (some ⟨X, 0, none⟩), .int .i64 c] w fun e w' => e = .returned (.tuple #[]) ∧ Lx w' X s i c ∧ Kept (fun k => k = X) w w' := by
  have c2 := h.c2
  have f2 := h.fz 2
  have HH := Lib.hid h
  clear h
  go_enter Tryd.func23, Tryd.ntmps23
  go_wp2_with fail
  go_end0
  exact ⟨rfl, HH.out.put2 c, Kept.setCell (D := fun k => k = X) (Kept.refl _ _) (.inl rfl) _⟩
theorem rfail_yes {w : World} {X : Nat} {s : ByteArray} {i c : Int} (h : Lx w X s i c) (hc : (c == 0) = false) (d : Int) :
    Calls Tryd.prog 23 #[.pointer (some ⟨X, 0, none⟩), .int .i64 d] w fun e w' => e = .returned (.tuple #[]) ∧ w = w' := by
  have c2 := h.c2
  clear h
  go_enter Tryd.func23, Tryd.ntmps23
  go_wp2_with fail
  go_end0
  exact ⟨rfl, rfl⟩
theorem rat_err {w : World} {X : Nat} {s : ByteArray} {i c : Int} (h : Lx w X s i c) (hc : (c != 0) = true) (d : Int) :
    Calls Tryd.prog 38 #[.pointer (some ⟨X, 0, none⟩), .int .i64 d] w fun e w' => e = .returned (.int .u8 0) ∧ ∃ m, w' = w.drewN m := by
  have c2 := h.c2
  clear h
  go_enter Tryd.func38, Tryd.ntmps38
  go_wp2_with fail
  go_quiet (fail)
  go_wp2_with fail
  go_ret
  exact ⟨rfl, _, rfl⟩
theorem rat_any {w : World} {X : Nat} {s : ByteArray} {i : Nat} (h : Lx w X s (i : Int) 0) (k : Nat) (hi : i + k ≤ 1000000) :
    Calls Tryd.prog 38 #[.pointer (some ⟨X, 0, none⟩), .int .i64 (k : Int)] w fun e w' => e = .returned (.int .u8 (byteAt s (i + k) : Int)) ∧ ∃ m, w' = w.drewN m := by
  have c0 := h.c0
  have c1 := h.c1
  have c2 := h.c2
  obtain ⟨b, hb⟩ : ∃ b, byteAt s (i + k) = b := ⟨_, rfl⟩
  rw [hb]
  have e1 : IntKind.i64.wrap ((i : Int) + (k : Int)) = (i : Int) + (k : Int) := IntWalk.i64_in _ ⟨by omega, by omega⟩
  by_cases hlt : i + k < s.size
  · have h1 : ((i : Int) + (k : Int)) < (s.size : Int) := by omega
    have h2 : 0 ≤ (i : Int) + (k : Int) := by omega
    have hix : ∀ W, (Instr.index 9 (.string s) (.int .i64 ((i : Int) + (k : Int)))).run Tryd.prog W = .ok (.int .u8 (b : Int)) W := fun W => by
      rw [run_index_string W 9 s .i64 _ Tryd.underlying9, dif_pos ⟨h2, h1⟩, ← hb, byteAt_in hlt]
      simp only [show ((i : Int) + (k : Int)).toNat = i + k by omega]
    clear h hb hlt
    go_enter Tryd.func38, Tryd.ntmps38
    go_wp2_with fail
    go_quiet (fail)
    go_wp2_with fail
    go_quiet (fail)
    go_wp2_with fail
    go_ret
    exact ⟨rfl, _, by rw [World.drewN_drewN]⟩
  · have h1 : ¬ ((i : Int) + (k : Int)) < (s.size : Int) := by omega
    have hb0 : b = 0 := by rw [← hb]; exact byteAt_out (by omega)
    clear h hb hlt
    subst hb0
    go_enter Tryd.func38, Tryd.ntmps38
    go_wp2_with fail
    go_quiet (fail)
    go_wp2_with fail
    go_ret
    exact ⟨rfl, _, rfl⟩
end Go.Proofs.YtloaalapkmbgeaaDoor

namespace Go.Proofs.YtloaalapkmbgeaaDoor
open Go Go.RowKit GlyphMath LexMath

theorem conv_u8 (b : Nat) (hb : b < 256) : IntKind.i32.wrap (b : Int) = (b : Int) := by
  rw [IntKind.wrap_i32]; omega
theorem rspecial_any (b : Nat) (w : World) :
    Calls Tryd.prog 70 #[.int .u8 (b : Int)] w fun e w' => e = .returned (.bool (other b)) ∧ w = w' := by
  have hu : other b = (decide (49 ≤ (b : Int) ∧ (b : Int) ≤ 57) || ((b : Int) == 64 || (b : Int) == 35 || (b : Int) == 63)) := by
    unfold other
    refine bool_iff ?_
    simp; omega
  rw [hu]
  clear hu
  go_enter Tryd.func70, Tryd.ntmps70
  go_wp2_with fail
  all_goals
    go_ret
    refine ⟨ret_bool (bool_iff ?_), rfl⟩
    first | (simp; done) | (simp; omega)
/-- Of letters that may stand in a text of an Arith, and are no parentheses. -/
def reckonN (b : Nat) : Bool := moreR b || (b == 32 || b == 9 || b == 43 || b == 45 || b == 42 || b == 47 || b == 37 || b == 60 || b == 62 || b == 61 || b == 33)
theorem rreckon_any (b : Nat) (hb : b < 256) (w : World) :
    Calls Tryd.prog 84 #[.int .u8 (b : Int)] w fun e w' => e = .returned (.bool (reckonN b)) ∧ w = w' := by
  have hc := conv_u8 b hb
  have hu : reckonN b = (moreR (b : Int) || ((b : Int) == 32 || (b : Int) == 9 || (b : Int) == 43 || (b : Int) == 45 || (b : Int) == 42 || (b : Int) == 47 || (b : Int) == 37 || (b : Int) == 60 || (b : Int) == 62 || (b : Int) == 61 || (b : Int) == 33)) := by
    unfold reckonN
    cases moreR (b : Int)
    · refine bool_iff ?_
      simp; omega
    · rfl
  rw [hu]
  clear hu
  obtain ⟨M, hM⟩ : ∃ M, moreR (b : Int) = M := ⟨_, rfl⟩
  rw [hM]
  have HM := Lib.hid hM
  clear hM hb
  cases M
  all_goals
    go_enter Tryd.func84, Tryd.ntmps84
    go_wp2_with (go_at_call 61; refine (rmore_any (b : Int) _).mono ?_; rintro e w1 ⟨rfl, rfl⟩; (try rw [HM.out]))
  all_goals
    go_ret
    refine ⟨ret_bool (bool_iff ?_), rfl⟩
    first | (simp; done) | (simp; omega) | (simp_all; done)
/-- Of letters that end a word, or begin a part. -/
def metaN (b : Nat) : Bool := ends b false || begins b
theorem rmeta_any (b : Nat) (w : World) :
    Calls Tryd.prog 44 #[.int .u8 (b : Int)] w fun e w' => e = .returned (.bool (metaN b)) ∧ w = w' := by
  have hu : metaN b = ((b : Int) == 32 || (b : Int) == 9 || (b : Int) == 10 || (b : Int) == 59 || (b : Int) == 38 || (b : Int) == 124 || (b : Int) == 40 || (b : Int) == 41 || (b : Int) == 60 || (b : Int) == 62 || (b : Int) == 39 || (b : Int) == 34 || (b : Int) == 36 || (b : Int) == 92) := by
    unfold metaN ends begins acts blankR
    refine bool_iff ?_
    simp; omega
  rw [hu]
  clear hu
  go_enter Tryd.func44, Tryd.ntmps44
  go_wp2_with fail
  all_goals
    go_ret
    refine ⟨ret_bool (bool_iff ?_), rfl⟩
    first | (simp; done) | (simp; omega) | (simp_all; done)
end Go.Proofs.YtloaalapkmbgeaaDoor

namespace Go.Proofs.YtloaalapkmbgeaaDoor
open Go Go.RowKit GlyphMath LexMath

/-- The lexer, and the letters that are left. -/
def LexAt (w : World) (X : Nat) (s : ByteArray) (xs : List Nat) : Prop := ∃ i : Nat, Lx w X s (i : Int) 0 ∧ Pos s i xs
/-- It has met an error. -/
def LexErr (w : World) (X : Nat) (s : ByteArray) (c : Nat) : Prop := (c = 2 ∨ c = 3) ∧ ∃ i, Lx w X s i (c : Int)
theorem LexAt.kept {D : Nat → Prop} {w w' : World} {X : Nat} {s : ByteArray} {xs : List Nat} (h : LexAt w X s xs) (hk : Kept D w w') (hX : ∀ k, k ≤ X → ¬ D k) : LexAt w' X s xs := by
  obtain ⟨i, h1, h2⟩ := h
  exact ⟨i, h1.kept hk hX, h2⟩
theorem LexErr.kept {D : Nat → Prop} {w w' : World} {X : Nat} {s : ByteArray} {c : Nat} (h : LexErr w X s c) (hk : Kept D w w') (hX : ∀ k, k ≤ X → ¬ D k) : LexErr w' X s c := by
  obtain ⟨h0, i, h1⟩ := h
  exact ⟨h0, i, h1.kept hk hX⟩
theorem LexErr.ne {w : World} {X : Nat} {s : ByteArray} {c : Nat} (h : LexErr w X s c) : ((c : Int) != 0) = true ∧ ((c : Int) == 0) = false := by
  rcases h.1 with rfl | rfl <;> exact ⟨rfl, rfl⟩
theorem LexAt.good {w : World} {X : Nat} {s : ByteArray} {xs : List Nat} (h : LexAt w X s xs) : ∀ x ∈ xs, GoodL x := by
  obtain ⟨i, -, h⟩ := h
  exact h.good
theorem LexAt.lt {w : World} {X : Nat} {s : ByteArray} {xs : List Nat} (h : LexAt w X s xs) : X < w.heap.size := by
  obtain ⟨i, h, -⟩ := h
  exact h.lt
/-- How many bytes are left. -/
def toEnd (w : World) (X n : Nat) : Nat := match w.cell? ⟨X, 1, none⟩ with
  | some (.int _ i) => n - i.toNat
  | _ => 0
theorem Lx.toEnd {w : World} {X n : Nat} {s : ByteArray} {i e : Int} (h : Lx w X s i e) : toEnd w X n = n - i.toNat := by
  unfold Go.Proofs.YtloaalapkmbgeaaDoor.toEnd
  rw [h.c1]

/-- What was passed of a run. -/
def Run (S : Nat → Bool) (xs ys : List Nat) : Prop := ∃ done, xs = done ++ ys ∧ got S xs = done ++ got S ys ∧ left S xs = left S ys
theorem Run.refl (S : Nat → Bool) (xs : List Nat) : Run S xs xs := ⟨[], rfl, rfl, rfl⟩
theorem Run.step {S : Nat → Bool} {xs r : List Nat} {c : Nat} (h : Run S xs (c :: r)) (hc : S c = false) : Run S xs r := by
  obtain ⟨d, h1, h2, h3⟩ := h
  refine ⟨d ++ [c], by rw [h1]; simp, ?_, ?_⟩
  · rw [h2, got, hc]; simp
  · rw [h3, left, hc]; rfl
theorem Run.stop {S : Nat → Bool} {xs ys : List Nat} (h : Run S xs ys) (hs : ys = [] ∨ S (next ys) = true) : got S xs ++ ys = xs ∧ left S xs = ys := by
  obtain ⟨d, h1, h2, h3⟩ := h
  have e : got S ys = [] ∧ left S ys = ys := by
    cases ys with
    | nil => exact ⟨rfl, rfl⟩
    | cons c r =>
      have hc : S c = true := hs.elim (fun e => by cases e) id
      unfold got left
      rw [hc]; exact ⟨rfl, rfl⟩
  rw [h2, h3, e.1, e.2, List.append_nil]
  exact ⟨h1.symm, rfl⟩
theorem enc_low : ∀ {l : List Nat}, (∀ x ∈ l, x < 128) → (enc l).length = l.length
  | [], _ => rfl
  | c :: r, h => by
    rw [enc, List.length_append, List.length_cons, enc_low (fun x hx => h x (by simp [hx]))]
    unfold eb
    rw [if_pos (h c (by simp))]
    simp; omega
theorem more_low {x : Nat} (h : moreR (x : Int) = true) : x < 128 := by
  apply Classical.byContradiction
  intro hx
  rw [moreR_high (by omega)] at h
  cases h
theorem got_more (xs : List Nat) : ∀ x ∈ got (fun r => !moreR (r : Int)) xs, moreR (x : Int) = true := by
  induction xs with
  | nil => intro x hx; cases hx
  | cons c r ih =>
    intro x hx
    unfold got at hx
    cases hc : moreR (c : Int) with
    | true =>
      simp only [hc] at hx
      rcases List.mem_cons.1 hx with rfl | hx
      · exact hc
      · exact ih x hx
    | false => simp only [hc] at hx; cases hx

/-- What a call answers that takes letters. -/
def StrEnd (w w' : World) (e : Ending) (X : Nat) (s : ByteArray) (m : Res (List Nat)) : Prop :=
  match m with
  | .ok (l, r) => e = .returned (txt (enc l)) ∧ LexAt w' X s r ∧ Kept (fun k => k = X) w w'
  | .error c => (∃ t : ByteArray, e = .returned (.string t)) ∧ LexErr w' X s c ∧ Kept (fun k => k = X) w w'
def nameM (xs : List Nat) : Res (List Nat) := if (got (fun r => !moreR (r : Int)) xs).length ≤ 12 then .ok (got (fun r => !moreR (r : Int)) xs, left (fun r => !moreR (r : Int)) xs) else .error 2

theorem lname_err {w : World} {X : Nat} {s : ByteArray} {i c : Int} (h : Lx w X s i c) (hc : (c != 0) = true) :
    Calls Tryd.prog 83 #[.pointer (some ⟨X, 0, none⟩)] w fun e w' => e = .returned (.string ⟨#[]⟩) ∧ ∃ m, w' = w.drewN m := by
  have c1 := h.c1
  have HA := Lib.hid (rat_err h hc 0)
  have hf : firstR 0 = false := by decide
  clear h hc
  go_enter Tryd.func83, Tryd.ntmps83
  go_wp2_with (first
    | (go_at_call 38; refine HA.out.mono ?_; rintro e w1 ⟨rfl, m, rfl⟩)
    | (go_at_call 62; refine (rfirst_any 0 _).mono ?_; rintro e w1 ⟨rfl, rfl⟩; rw [hf]))
  go_ret
  exact ⟨rfl, _, rfl⟩
theorem lname_none {w : World} {X : Nat} {s : ByteArray} {xs : List Nat} (h : LexAt w X s xs) (hs : s.size ≤ 2000) (hf : firstR (next xs : Int) = false) :
    Calls Tryd.prog 83 #[.pointer (some ⟨X, 0, none⟩)] w fun e w' => e = .returned (.string ⟨#[]⟩) ∧ ∃ m, w' = w.drewN m := by
  obtain ⟨i, h, hp⟩ := h
  have c1 := h.c1
  have HA := Lib.hid (rat_any h 0 (by have := hp.le; omega))
  rw [Nat.add_zero, hp.fbn] at HA
  rw [← firstR_fbn hp.good] at hf
  have hc := conv_u8 _ (fbn_lt hp.good)
  obtain ⟨b, hb⟩ : ∃ b, fbn xs = b := ⟨_, rfl⟩
  rw [hb] at HA hf hc
  clear h hp hb hs
  go_enter Tryd.func83, Tryd.ntmps83
  go_wp2_with (first
    | (go_at_call 38; refine HA.out.mono ?_; rintro e w1 ⟨rfl, m, rfl⟩)
    | (go_at_call 62; refine (rfirst_any (b : Int) _).mono ?_; rintro e w1 ⟨rfl, rfl⟩; rw [hf]))
  go_ret
  exact ⟨rfl, _, rfl⟩

set_option maxHeartbeats 1000000 in
theorem lname_any {w : World} {X : Nat} {s : ByteArray} {xs : List Nat} (h : LexAt w X s xs) (hs : s.size ≤ 2000) (hf : firstR (next xs : Int) = true) :
    Calls Tryd.prog 83 #[.pointer (some ⟨X, 0, none⟩)] w fun e w' => StrEnd w w' e X s (nameM xs) := by
  obtain ⟨i, h, hp⟩ := h
  have c1 := h.c1
  have HA := Lib.hid (rat_any h 0 (by have := hp.le; omega))
  rw [Nat.add_zero, hp.fbn] at HA
  rw [← firstR_fbn hp.good] at hf
  have hc := conv_u8 _ (fbn_lt hp.good)
  obtain ⟨b, hb⟩ : ∃ b, fbn xs = b := ⟨_, rfl⟩
  rw [hb] at HA hf hc
  have HH := Lib.hid h
  have HP := Lib.hid hp
  have HS := Lib.hid hs
  clear h hp hb hs
  go_enter Tryd.func83, Tryd.ntmps83
  go_wp2_with (first
    | (go_at_call 38; refine HA.out.mono ?_; rintro e w1 ⟨rfl, m, rfl⟩)
    | (go_at_call 62; refine (rfirst_any (b : Int) _).mono ?_; rintro e w1 ⟨rfl, rfl⟩; rw [hf]))
  go_loopw [] (fun wr => ∃ (j : Nat) (ys : List Nat), Lx wr X s (j : Int) 0 ∧ Pos s j ys ∧ Run (fun r => !moreR (r : Int)) xs ys ∧ Kept (fun k => k = X) w wr) (fun wr => toEnd wr X s.size)
  case atStart => exact ⟨i, xs, HH.out.drewN _, HP.out, Run.refl _ _, (Kept.refl _ _).drewN _⟩
  case round =>
    obtain ⟨j, ys, hl, hpy, hrun, hk⟩ := hrel
    have HAT := Lib.hid (rat_any hl 0 (by have := hpy.le; have := HS.out; omega))
    rw [Nat.add_zero, hpy.fbn] at HAT
    have hcy := conv_u8 _ (fbn_lt hpy.good)
    have c1 := hl.c1
    have f1 := hl.fz 1
    have c0 := hl.c0
    have hmf := moreR_fbn hpy.good
    obtain ⟨d, hd⟩ : ∃ d, fbn ys = d := ⟨_, rfl⟩
    rw [hd] at HAT hcy hmf
    have hjs : (j : Int) ≤ 2000 := by have := hpy.le; have := HS.out; omega
    have HJ := Lib.hid (And.intro hl (And.intro hpy (And.intro hrun hk)))
    clear hl hpy hrun hk hd
    cases hM : moreR (d : Int) with
    | true =>
      rw [hM] at hmf
      have HMF := Lib.hid hmf.symm
      clear hmf
      go_wp2_with (first
        | (go_at_call 38; refine HAT.out.mono ?_; rintro e w1 ⟨rfl, m1, rfl⟩)
        | (go_at_call 61; refine (rmore_any (d : Int) _).mono ?_; rintro e w1 ⟨rfl, rfl⟩; rw [hM]))
      obtain ⟨hl, hpy, hrun, hk⟩ := HJ.out
      cases ys with
      | nil => exact absurd HMF.out (by decide)
      | cons c r =>
        have hm : moreR (c : Int) = true := HMF.out
        have hp2 := hpy.fbn1 (more_low hm)
        have hlt : j < s.size := by have := hp2.le; omega
        have hl2 : Lx ((wr.drewN m1).setCell ⟨X, 1, none⟩ (.int .i64 ((j : Int) + 1))) X s ((j + 1 : Nat) : Int) 0 := (hl.drewN m1).put1 _
        refine ⟨⟨j + 1, r, hl2, hp2, hrun.step (by simp [hm]), Kept.setCell (D := fun k => k = X) (hk.drewN m1) (.inl rfl) _⟩, ?_⟩
        rw [hl2.toEnd, hl.toEnd]
        simp only [Int.toNat_natCast]
        omega
    | false =>
      rw [hM] at hmf
      obtain ⟨-, hpy, hrun, -⟩ := HJ.out
      obtain ⟨e1, e2⟩ := hrun.stop (.inr (by simp [← hmf]))
      have hlow := enc_low (l := got (fun r => !moreR (r : Int)) xs) (fun x hx => more_low (got_more xs x hx))
      have hex := Pos.extract (s := s) (i := i) (p := got (fun r => !moreR (r : Int)) xs) (r := ys) (by rw [e1]; exact HP.out)
      have hl1 := HP.out.len
      rw [← e1, enc_append, List.length_append] at hl1
      have hl2 := hpy.len
      obtain ⟨G, hG⟩ : ∃ G, got (fun r => !moreR (r : Int)) xs = G := ⟨_, rfl⟩
      rw [hG] at hlow hex hl1
      have hij : (i : Int) ≤ (j : Int) := by omega
      have hjn : (j : Int) ≤ (s.size : Int) := by omega
      have hi0 : (0 : Int) ≤ (i : Int) := by omega
      have hsl : ∀ W, (Instr.slice 9 (.string s) (some (.int .i64 (i : Int))) (some (.int .i64 (j : Int))) none).run Tryd.prog W = .ok (txt (enc G)) W := fun W => by
        rw [run_slice_string W 9 s .i64 .i64 _ _ Tryd.underlying9 hi0 hij hjn, show (i : Int).toNat = i by omega, show (j : Int).toNat = i + (enc G).length by omega, hex]
        rfl
      obtain ⟨gs, hgs⟩ : ∃ gs : ByteArray, txt (enc G) = .string gs := ⟨_, rfl⟩
      rw [hgs] at hsl
      have hd : IntKind.i64.wrap ((j : Int) - (i : Int)) = (j : Int) - (i : Int) := IntWalk.i64_in _ ⟨by omega, by omega⟩
      by_cases hlen : G.length ≤ 12
      · have hM' := Lib.hid (show nameM xs = .ok (G, ys) by unfold nameM; rw [hG, if_pos hlen, e2])
        have ht : decide ((12 : Int) < (j : Int) - (i : Int)) = false := decide_eq_false (by omega)
        have HGS := Lib.hid hgs
        clear e1 e2 hlow hex hl1 hl2 hij hjn hi0 hmf hpy hrun hgs hlen hG
        go_wp2_with (first
          | (go_at_call 38; refine HAT.out.mono ?_; rintro e w1 ⟨rfl, m1, rfl⟩)
          | (go_at_call 61; refine (rmore_any (d : Int) _).mono ?_; rintro e w1 ⟨rfl, rfl⟩; rw [hM]))
        go_quiet (fail)
        go_wp2_with fail
        go_ret
        rw [hM'.out]
        exact ⟨by rw [HGS.out]; rfl, ⟨j, (HJ.out.1.drewN _).drewN _, HJ.out.2.1⟩, (HJ.out.2.2.2.drewN _).drewN _⟩
      · have hM' := Lib.hid (show nameM xs = .error 2 by unfold nameM; rw [hG, if_neg hlen])
        have ht : decide ((12 : Int) < (j : Int) - (i : Int)) = true := decide_eq_true (by omega)
        have HF := Lib.hid (fun m => rfail_no (HJ.out.1.drewN m) 2)
        clear e1 e2 hlow hex hl1 hl2 hij hjn hi0 hmf hpy hrun hgs hlen hG
        go_wp2_with (first
          | (go_at_call 38; refine HAT.out.mono ?_; rintro e w1 ⟨rfl, m1, rfl⟩)
          | (go_at_call 61; refine (rmore_any (d : Int) _).mono ?_; rintro e w1 ⟨rfl, rfl⟩; rw [hM])
          | (go_at_call 23; refine (HF.out _).mono ?_; rintro e w2 ⟨rfl, hl2, hk2⟩; have d0 := hl2.c0; have d1 := hl2.c1; have H2 := Lib.hid (And.intro hl2 hk2); clear hl2 hk2))
        go_quiet (fail)
        go_wp2_with fail
        go_ret
        rw [hM'.out]
        exact ⟨⟨_, rfl⟩, ⟨.inl rfl, _, H2.out.1.drewN _⟩, ((HJ.out.2.2.2.drewN _).on H2.out.2).drewN _⟩

/-! ### A parameter -/
theorem rparam_err {w : World} {X : Nat} {s : ByteArray} {i c : Int} (h : Lx w X s i c) (hc : (c != 0) = true) :
    Calls Tryd.prog 71 #[.pointer (some ⟨X, 0, none⟩)] w fun e w' => e = .returned (.string ⟨#[]⟩) ∧ ∃ m, w' = w.drewN m := by
  have HA := Lib.hid (rat_err h hc 0)
  have ho : other 0 = false := by decide
  have HN := Lib.hid (fun m => lname_err (h.drewN m) hc)
  clear h hc
  go_enter Tryd.func71, Tryd.ntmps71
  go_wp2_with (first
    | (go_at_call 38; refine HA.out.mono ?_; rintro e w1 ⟨rfl, m, rfl⟩)
    | (go_at_call 70; refine (rspecial_any 0 _).mono ?_; rintro e w1 ⟨rfl, rfl⟩; rw [ho])
    | (go_at_call 83; refine (HN.out _).mono ?_; rintro e w1 ⟨rfl, m2, rfl⟩))
  go_ret
  exact ⟨rfl, _, rfl⟩
theorem rparam_none {w : World} {X : Nat} {s : ByteArray} {xs : List Nat} (h : LexAt w X s xs) (hs : s.size ≤ 2000) (hf : firstR (next xs : Int) = false) (ho : other (next xs) = false) :
    Calls Tryd.prog 71 #[.pointer (some ⟨X, 0, none⟩)] w fun e w' => e = .returned (.string ⟨#[]⟩) ∧ ∃ m, w' = w.drewN m := by
  obtain ⟨i, hl, hp⟩ := h
  have HA := Lib.hid (rat_any hl 0 (by have := hp.le; omega))
  rw [Nat.add_zero, hp.fbn] at HA
  rw [← other_fbn hp.good] at ho
  have HN := Lib.hid (fun m => lname_none (show LexAt (w.drewN m) X s xs from ⟨i, hl.drewN m, hp⟩) hs hf)
  obtain ⟨b, hb⟩ : ∃ b, fbn xs = b := ⟨_, rfl⟩
  rw [hb] at HA ho
  clear hl hp hb hs hf
  go_enter Tryd.func71, Tryd.ntmps71
  go_wp2_with (first
    | (go_at_call 38; refine HA.out.mono ?_; rintro e w1 ⟨rfl, m, rfl⟩)
    | (go_at_call 70; refine (rspecial_any b _).mono ?_; rintro e w1 ⟨rfl, rfl⟩; rw [ho])
    | (go_at_call 83; refine (HN.out _).mono ?_; rintro e w1 ⟨rfl, m2, rfl⟩))
  go_ret
  exact ⟨rfl, _, rfl⟩
theorem param_name {xs : List Nat} (hf : firstR (next xs : Int) = true) (ho : other (next xs) = false) : parameterM xs = nameM xs := by
  have hne : nameL (got (fun r => !moreR (r : Int)) xs) = decide ((got (fun r => !moreR (r : Int)) xs).length ≤ 12) := by
    have hall := got_more xs
    cases xs with
    | nil => exact absurd hf (by decide)
    | cons c r =>
      have hm : moreR (c : Int) = true := by unfold moreR; rw [show firstR (c : Int) = true from hf]; rfl
      have e : got (fun r => !moreR (r : Int)) (c :: r) = c :: got (fun r => !moreR (r : Int)) r := by rw [got]; simp [hm]
      rw [e] at hall ⊢
      show (firstR (c : Int) && (c :: got (fun r => !moreR (r : Int)) r).all (fun (x : Nat) => moreR x) && decide _) = _
      rw [show firstR (c : Int) = true from hf, List.all_eq_true.2 hall]
      rfl
  unfold parameterM nameM
  rw [ho, hne]
  by_cases h : (got (fun r => !moreR (r : Int)) xs).length ≤ 12
  · rw [if_pos h, decide_eq_true h]; rfl
  · rw [if_neg h, decide_eq_false h]; rfl
theorem rparam_name {w : World} {X : Nat} {s : ByteArray} {xs : List Nat} (h : LexAt w X s xs) (hs : s.size ≤ 2000) (hf : firstR (next xs : Int) = true) (ho : other (next xs) = false) :
    Calls Tryd.prog 71 #[.pointer (some ⟨X, 0, none⟩)] w fun e w' => StrEnd w w' e X s (parameterM xs) := by
  rw [param_name hf ho]
  obtain ⟨i, hl, hp⟩ := h
  have HA := Lib.hid (rat_any hl 0 (by have := hp.le; omega))
  rw [Nat.add_zero, hp.fbn] at HA
  rw [← other_fbn hp.good] at ho
  have HN := Lib.hid (fun m => lname_any (show LexAt (w.drewN m) X s xs from ⟨i, hl.drewN m, hp⟩) hs hf)
  obtain ⟨b, hb⟩ : ∃ b, fbn xs = b := ⟨_, rfl⟩
  rw [hb] at HA ho
  obtain ⟨M, hM⟩ : ∃ M, nameM xs = M := ⟨_, rfl⟩
  rw [hM] at HN ⊢
  clear hl hp hb hs hf hM
  go_enter Tryd.func71, Tryd.ntmps71
  go_wp2_with (first
    | (go_at_call 38; refine HA.out.mono ?_; rintro e w1 ⟨rfl, m, rfl⟩)
    | (go_at_call 70; refine (rspecial_any b _).mono ?_; rintro e w1 ⟨rfl, rfl⟩; rw [ho]))
  refine (HN.out _).mono ?_
  intro e w2 hE
  cases M with
  | error cc =>
    obtain ⟨⟨t, rfl⟩, hle, hk⟩ := hE
    have H2 := Lib.hid (And.intro hle hk)
    clear hle hk
    go_wp2_with fail
    go_ret
    exact ⟨⟨_, rfl⟩, H2.out.1, ((Kept.refl _ w).drewN _).on H2.out.2⟩
  | ok a =>
    obtain ⟨l, r⟩ := a
    obtain ⟨rfl, hle, hk⟩ := hE
    have H2 := Lib.hid (And.intro hle hk)
    clear hle hk
    go_wp2_with fail
    go_ret
    exact ⟨rfl, H2.out.1, ((Kept.refl _ w).drewN _).on H2.out.2⟩
theorem rparam_other {w : World} {X : Nat} {s : ByteArray} {xs : List Nat} (h : LexAt w X s xs) (hs : s.size ≤ 2000) (ho : other (next xs) = true) :
    Calls Tryd.prog 71 #[.pointer (some ⟨X, 0, none⟩)] w fun e w' => StrEnd w w' e X s (parameterM xs) := by
  have hM : parameterM xs = .ok ([next xs], xs.tail) := by unfold parameterM; rw [if_pos ho]
  rw [hM]
  obtain ⟨i, hl, hp⟩ := h
  cases xs with
  | nil => exact absurd ho (by decide)
  | cons c r =>
    have hlow : c < 128 := by
      apply Classical.byContradiction
      intro hx
      rw [show next (c :: r) = c from rfl, other_high (by omega)] at ho
      cases ho
    have HA := Lib.hid (rat_any hl 0 (by have := hp.le; omega))
    rw [Nat.add_zero, hp.fbn] at HA
    rw [← other_fbn hp.good] at ho
    have hp2 := hp.fbn1 hlow
    have hex := Pos.extract (p := [c]) hp
    rw [enc_low (by simpa using hlow)] at hex
    have c1 := hl.c1
    have c0 := hl.c0
    have f1 := hl.fz 1
    obtain ⟨b, hb⟩ : ∃ b, fbn (c :: r) = b := ⟨_, rfl⟩
    rw [hb] at HA ho
    have hi0 : (0 : Int) ≤ (i : Int) := by omega
    have hi1 : (i : Int) + 1 ≤ (s.size : Int) := by have := hp2.le; omega
    have hs2 : (s.size : Int) ≤ 2000 := by omega
    obtain ⟨gs, hgs⟩ : ∃ gs : ByteArray, txt (enc [c]) = .string gs := ⟨_, rfl⟩
    have hsl : ∀ W, (Instr.slice 9 (.string s) (some (.int .i64 (i : Int))) (some (.int .i64 ((i : Int) + 1))) none).run Tryd.prog W = .ok (.string gs) W := fun W => by
      rw [run_slice_string W 9 s .i64 .i64 _ _ Tryd.underlying9 hi0 (by omega) hi1, show (i : Int).toNat = i by omega, show ((i : Int) + 1).toNat = i + [c].length by simp only [List.length_singleton]; omega, hex, ← hgs]
      rfl
    have e1 : IntKind.i64.wrap ((i : Int) + 1) = (i : Int) + 1 := IntWalk.i64_in _ ⟨by omega, by omega⟩
    have e2 : IntKind.i64.wrap (i : Int) = (i : Int) := IntWalk.i64_in _ ⟨by omega, by omega⟩
    have HL := Lib.hid hl
    have HP := Lib.hid hp2
    have HGS := Lib.hid hgs
    clear hl hp hp2 hb hs hM hex hlow hgs
    go_enter Tryd.func71, Tryd.ntmps71
    go_wp2_with (first
      | (go_at_call 38; refine HA.out.mono ?_; rintro e w1 ⟨rfl, m, rfl⟩)
      | (go_at_call 70; refine (rspecial_any b _).mono ?_; rintro e w1 ⟨rfl, rfl⟩; rw [ho]))
    go_quiet (fail)
    go_wp2_with fail
    go_ret
    exact ⟨by show _ = Ending.returned (txt (enc [c])); rw [HGS.out]; rfl, ⟨i + 1, ((HL.out.drewN _).put1 _).drewN _, HP.out⟩, (Kept.setCell (D := fun k => k = X) ((Kept.refl _ w).drewN _) (.inl rfl) _).drewN _⟩
end Go.Proofs.YtloaalapkmbgeaaDoor

namespace Go.Proofs.YtloaalapkmbgeaaDoor
open Go Go.RowKit GlyphMath LexMath

theorem rne {r k : Nat} (h : r ≠ k) : ((r : Int) == (k : Int)) = false := by
  have : ¬ (r : Int) = (k : Int) := by omega
  simpa using this
theorem eq_of_fbn {ys : List Nat} {k : Nat} (hk : 0 < k ∧ k < 128) (hg : ∀ x ∈ ys, GoodL x) (h : fbn ys = k) : ∃ r, ys = k :: r := by
  have := (fbn_iff hg hk.2).1 h
  cases ys with
  | nil => simp [next] at this; omega
  | cons c r => exact ⟨r, by rw [show c = k from this]⟩
theorem reckonN_is {b : Nat} (h1 : b ≠ 40) (h2 : b ≠ 41) : reckonN b = reckons b := by
  unfold reckonN reckons
  cases moreR (b : Int)
  · refine bool_iff ?_
    simp; omega
  · rfl
theorem reckons_low {b : Nat} (h : reckons b = true) : b < 128 := by
  apply Classical.byContradiction
  intro hx
  rw [reckons_high (by omega)] at h
  cases h
theorem arith_open {r : List Nat} {n : Nat} {acc : List Nat} : arithM (40 :: r) n acc = arithM r (n + 1) (acc ++ [40]) := by
  rw [arithM, if_neg (by omega), if_pos (by decide), if_pos rfl]
theorem arith_shut {r : List Nat} {n : Nat} {acc : List Nat} : arithM (41 :: r) (n + 1) acc = arithM r n (acc ++ [41]) := by
  rw [arithM, if_neg (by omega), if_pos (by decide), if_neg (by omega), if_pos rfl]; rfl
theorem rarith_end {r : List Nat} {acc : List Nat} : arithM (41 :: r) 0 acc = if next r = 41 then .ok (acc, r.tail) else .error 2 := by
  rw [arithM, if_pos ⟨rfl, rfl⟩]
theorem arith_mere {c : Nat} {r : List Nat} {n : Nat} {acc : List Nat} (h1 : c ≠ 40) (h2 : c ≠ 41) (h : reckons c = true) : arithM (c :: r) n acc = arithM r n (acc ++ [c]) := by
  rw [arithM, if_neg (by omega), if_pos h, if_neg h1, if_neg h2]
theorem rarith_bad {ys : List Nat} {n : Nat} {acc : List Nat} (h2 : next ys ≠ 41) (h : reckons (next ys) = false) : arithM ys n acc = .error 2 := by
  cases ys with
  | nil => rfl
  | cons c r => rw [arithM, if_neg (fun e => h2 e.2), if_neg (by rw [show reckons c = false from h]; decide)]

structure RArAt (w wr : World) (X : Nat) (s : ByteArray) (xs : List Nat) (M : Res (List Nat)) (j n : Nat) (ys acc : List Nat) : Prop where
  lx : Lx wr X s (j : Int) 0
  pos : Pos s j ys
  cut : xs = acc ++ ys
  said : arithM ys n acc = M
  few : n ≤ acc.length
  kept : Kept (fun k => k = X) w wr

theorem RArAt.next {w wr w' : World} {X : Nat} {s : ByteArray} {xs : List Nat} {M : Res (List Nat)} {j n n' c : Nat} {r acc : List Nat} (h : RArAt w wr X s xs M j n (c :: r) acc) (hc : c < 128) (hm : arithM r n' (acc ++ [c]) = M) (hn : n' ≤ n + 1) (m : Nat)
    (hw : w' = (wr.drewN m).setCell ⟨X, 1, none⟩ (.int .i64 ((j : Int) + 1))) : RArAt w w' X s xs M (j + 1) n' r (acc ++ [c]) ∧ toEnd w' X s.size < toEnd wr X s.size := by
  subst hw
  have hp2 := h.pos.fbn1 hc
  have hl2 : Lx ((wr.drewN m).setCell ⟨X, 1, none⟩ (.int .i64 ((j : Int) + 1))) X s ((j + 1 : Nat) : Int) 0 := (h.lx.drewN m).put1 _
  refine ⟨⟨hl2, hp2, by rw [h.cut]; simp, hm, by have := h.few; simp; omega, Kept.setCell (D := fun k => k = X) (h.kept.drewN m) (.inl rfl) _⟩, ?_⟩
  rw [hl2.toEnd, h.lx.toEnd]
  have := hp2.le
  simp only [Int.toNat_natCast]
  omega

set_option maxHeartbeats 2000000 in
theorem rarith_any {w : World} {X : Nat} {s : ByteArray} {xs : List Nat} (h : LexAt w X s xs) (hs : s.size ≤ 2000) :
    Calls Tryd.prog 69 #[.pointer (some ⟨X, 0, none⟩)] w fun e w' => StrEnd w w' e X s (arithM xs 0 []) := by
  obtain ⟨M, hM⟩ : ∃ M, arithM xs 0 [] = M := ⟨_, rfl⟩
  rw [hM]
  obtain ⟨i, hl, hp⟩ := h
  have c1 := hl.c1
  have HH := Lib.hid (show RArAt w w X s xs M i 0 xs [] from ⟨hl, hp, rfl, hM, Nat.le_refl _, Kept.refl _ _⟩)
  have HP := Lib.hid hp
  have HS := Lib.hid hs
  have hi0 : (0 : Int) ≤ (i : Int) := by omega
  clear hl hp hs hM
  go_enter Tryd.func69, Tryd.ntmps69
  go_wp2_with fail
  go_loopw [4] (fun d wr => ∃ (j n : Nat) (ys acc : List Nat), d = .int .i64 (n : Int) ∧ RArAt w wr X s xs M j n ys acc) (fun _ wr => toEnd wr X s.size)
  case atStart => exact ⟨i, 0, xs, [], rfl, HH.out⟩
  case round =>
    obtain ⟨j, n, ys, acc, rfl, hA⟩ := hrel
    have HA := Lib.hid hA
    have hjs := hA.pos.le
    have hsz := HS.out
    have hcut := hA.pos.len
    have hcut2 := HP.out.len
    rw [hA.cut, enc_append, List.length_append] at hcut2
    have hacc := (enc_length acc).1
    have HAT := Lib.hid (rat_any hA.lx 0 (by omega))
    rw [Nat.add_zero, hA.pos.fbn] at HAT
    have HAT1 := Lib.hid (fun m => rat_any (hA.lx.drewN m) 1 (by omega))
    have c1 := hA.lx.c1
    have f1 := hA.lx.fz 1
    have c0 := hA.lx.c0
    obtain ⟨b, hb⟩ : ∃ b, fbn ys = b := ⟨_, rfl⟩
    rw [hb] at HAT
    have hb2 : b < 256 := by rw [← hb]; exact fbn_lt hA.pos.good
    have hj2 : (j : Int) ≤ 2000 := by omega
    have hn2 : (n : Int) ≤ 2000 := by have := hA.few; omega
    have HB := Lib.hid hb
    by_cases h40 : b = 40
    · obtain ⟨r, rfl⟩ := eq_of_fbn (by decide) hA.pos.good (hb.trans h40)
      subst h40
      have hm := hA.said
      rw [arith_open] at hm
      have HM := Lib.hid hm
      clear hb hb2 hA hjs hsz hcut hcut2 hacc hm HAT1
      go_wp2_with (go_at_call 38; refine HAT.out.mono ?_; rintro e w1 ⟨rfl, m1, rfl⟩)
      obtain ⟨k1, k2⟩ := HA.out.next (by decide) HM.out (Nat.le_refl _) m1 rfl
      exact ⟨⟨j + 1, n + 1, r, _, by simp, k1⟩, k2⟩
    · have y40 : ((b : Int) == 40) = false := rne h40
      by_cases h41 : b = 41
      · obtain ⟨r, rfl⟩ := eq_of_fbn (by decide) hA.pos.good (hb.trans h41)
        subst h41
        cases n with
        | succ n =>
          have hm := hA.said
          rw [arith_shut] at hm
          have HM := Lib.hid hm
          have hn0 : (0 : Int) < (n : Int) + 1 := by omega
          clear hb hb2 hA hjs hsz hcut hcut2 hacc hm HAT1
          go_wp2_with (go_at_call 38; refine HAT.out.mono ?_; rintro e w1 ⟨rfl, m1, rfl⟩)
          obtain ⟨k1, k2⟩ := HA.out.next (by decide) HM.out (by omega) m1 rfl
          exact ⟨⟨j + 1, n, r, _, by simp, k1⟩, k2⟩
        | zero =>
          have hm := hA.said
          rw [rarith_end] at hm
          have hp2 := hA.pos.fbn1 (by decide)
          rw [hp2.fbn] at HAT1
          have hiff := fbn_iff hp2.good (k := 41) (by decide)
          obtain ⟨b1, hb1⟩ : ∃ b1, fbn r = b1 := ⟨_, rfl⟩
          rw [hb1] at HAT1 hiff
          by_cases h1 : b1 = 41
          · obtain ⟨r2, rfl⟩ := eq_of_fbn (by decide) hp2.good (hb1.trans h1)
            subst h1
            have hm2 : Except.ok (acc, r2) = M := hm
            have HM := Lib.hid hm2
            have hp3 := hp2.fbn1 (by decide)
            have HP3 := Lib.hid hp3
            have hex := Pos.extract (s := s) (i := i) (p := acc) (r := 41 :: 41 :: r2) (by rw [← hA.cut]; exact HP.out)
            have hl3 := HP.out.len
            rw [hA.cut, enc_append, List.length_append] at hl3
            have hij : (i : Int) ≤ (j : Int) := by omega
            have hjn : (j : Int) ≤ (s.size : Int) := by omega
            have hsl : ∀ W, (Instr.slice 9 (.string s) (some (.int .i64 (i : Int))) (some (.int .i64 (j : Int))) none).run Tryd.prog W = .ok (txt (enc acc)) W := fun W => by
              rw [run_slice_string W 9 s .i64 .i64 _ _ Tryd.underlying9 hi0 hij hjn, show (i : Int).toNat = i by omega, show (j : Int).toNat = i + (enc acc).length by omega, hex]
              rfl
            obtain ⟨gs, hgs⟩ : ∃ gs : ByteArray, txt (enc acc) = .string gs := ⟨_, rfl⟩
            rw [hgs] at hsl
            have HGS := Lib.hid hgs
            have e2 : IntKind.i64.wrap (j : Int) = (j : Int) := IntWalk.i64_in _ ⟨by omega, by omega⟩
            clear hb hb2 hA hjs hsz hcut hcut2 hacc hm hm2 hp2 hp3 hiff hb1 hex hl3 hij hjn hgs hi0
            go_wp2_with fail
            refine HAT.out.mono ?_
            rintro e w1 ⟨rfl, m1, rfl⟩
            go_wp2_with fail
            refine (HAT1.out _).mono ?_
            rintro e w2 ⟨rfl, m2, rfl⟩
            go_wp2_with fail
            go_quiet (fail)
            go_wp2_with fail
            go_ret
            rw [← HM.out]
            exact ⟨by rw [HGS.out]; rfl, ⟨j + 1 + 1, by
              rw [show ((j + 1 + 1 : Nat) : Int) = (j : Int) + 2 by omega]
              exact ((HA.out.lx.drewN (m1 + m2)).put1 ((j : Int) + 2)).drewN _, HP3.out⟩, (Kept.setCell (D := fun k => k = X) (HA.out.kept.drewN (m1 + m2)) (.inl rfl) _).drewN _⟩
          · have hm2 : Except.error 2 = M := by rw [← hm, if_neg fun e => h1 (hiff.2 e)]
            have HM := Lib.hid hm2
            have y41 : ((b1 : Int) == 41) = false := rne h1
            have hrk : reckonN 41 = false := by decide
            have HF := Lib.hid (fun m => rfail_no (HA.out.lx.drewN m) 2)
            clear hb hb2 hA hjs hsz hcut hcut2 hacc hm hm2 hp2 hiff hb1 h1 hi0
            go_wp2_with fail
            refine HAT.out.mono ?_
            rintro e w1 ⟨rfl, m1, rfl⟩
            go_wp2_with fail
            refine (HAT1.out _).mono ?_
            rintro e w2 ⟨rfl, m2, rfl⟩
            go_wp2_with fail
            refine (rreckon_any 41 (by decide) _).mono ?_
            rintro e w3 ⟨rfl, rfl⟩
            rw [hrk]
            go_wp2_with fail
            refine (HF.out _).mono ?_
            rintro e w4 ⟨rfl, hl4, hk4⟩
            have H4 := Lib.hid (And.intro hl4 hk4)
            clear hl4 hk4
            go_wp2_with fail
            go_ret
            rw [← HM.out]
            exact ⟨⟨_, rfl⟩, ⟨.inl rfl, _, H4.out.1⟩, (HA.out.kept.drewN _).on H4.out.2⟩
      · have y41 : ((b : Int) == 41) = false := rne h41
        have hrk := reckonN_is h40 h41
        have hrf := reckons_fbn hA.pos.good
        rw [hb] at hrf
        cases hR : reckons b with
        | true =>
          have hbl := reckons_low hR
          rw [hR] at hrk
          cases ys with
          | nil => rw [show fbn [] = 0 from rfl] at hb; subst hb; exact absurd hR (by decide)
          | cons c r =>
            have hcb : c = b := by
              rcases fbn_low hA.pos.good with e | ⟨e1, -⟩
              · rw [hb] at e; exact e.symm
              · omega
            subst hcb
            have hm := hA.said
            rw [arith_mere h40 h41 hR] at hm
            have HM := Lib.hid (And.intro hm hbl)
            clear hb hA hjs hsz hcut hcut2 hacc hm HAT1 hrf hbl h40 h41 hR
            go_wp2_with (first
              | (go_at_call 38; refine HAT.out.mono ?_; rintro e w1 ⟨rfl, m1, rfl⟩)
              | (go_at_call 84; refine (rreckon_any c hb2 _).mono ?_; rintro e w3 ⟨rfl, rfl⟩; rw [hrk]))
            obtain ⟨k1, k2⟩ := HA.out.next HM.out.2 HM.out.1 (by omega) m1 rfl
            exact ⟨⟨j + 1, n, r, _, by simp, k1⟩, k2⟩
        | false =>
          rw [hR] at hrk hrf
          have hm := hA.said
          rw [rarith_bad (fun e => h41 (by rw [← hb]; exact (fbn_iff hA.pos.good (by decide)).2 e)) hrf.symm] at hm
          have HM := Lib.hid hm
          have HF := Lib.hid (fun m1 => rfail_no (HA.out.lx.drewN m1) 2)
          clear hb hA hjs hsz hcut hcut2 hacc hm HAT1 hrf h40 h41 hR hi0
          go_wp2_with (first
            | (go_at_call 38; refine HAT.out.mono ?_; rintro e w1 ⟨rfl, m1, rfl⟩)
            | (go_at_call 84; refine (rreckon_any b hb2 _).mono ?_; rintro e w3 ⟨rfl, rfl⟩; rw [hrk]))
          refine (HF.out _).mono ?_
          rintro e w4 ⟨rfl, hl4, hk4⟩
          have H4 := Lib.hid (And.intro hl4 hk4)
          clear hl4 hk4
          go_wp2_with fail
          go_ret
          rw [← HM.out]
          exact ⟨⟨_, rfl⟩, ⟨.inl rfl, _, H4.out.1⟩, (HA.out.kept.drewN _).on H4.out.2⟩
end Go.Proofs.YtloaalapkmbgeaaDoor

namespace Go.Proofs.YtloaalapkmbgeaaDoor
open Go Go.RowKit GlyphMath LexMath

/-- A row of parts that is being made, all of it at B and above. -/
structure PrtO (w : World) (B : Nat) (v : Value) (vs : List Value) (F : Nat → Prop) (ps : List Pt) : Prop where
  own : w.ownsRow B 30 5 v ps.length (rowCells ps vs)
  len : ps.length = vs.length
  sub : ∀ (j : Nat) (p : Pt) (u : Value), ps[j]? = some p → vs[j]? = some u → WordV w F u p.word
  far : ∀ g, F g → B ≤ g ∧ g < w.heap.size ∧ v.ownBlock ≠ some g
def Prt (w : World) (B : Nat) (v : Value) (ps : List Pt) : Prop := ∃ vs F, PrtO w B v vs F ps

theorem PrtO.kept {D : Nat → Prop} {w w' : World} {B : Nat} {v : Value} {vs : List Value} {F : Nat → Prop} {ps : List Pt} (h : PrtO w B v vs F ps) (hk : Kept D w w') (hD : ∀ k, B ≤ k → k < w.heap.size → ¬ D k) : PrtO w' B v vs F ps where
  own := ownsRow_same h.own fun g hg => hk.block g (World.ownsRow.lt h.own g hg).2 (hD g (World.ownsRow.lt h.own g hg).1 (World.ownsRow.lt h.own g hg).2)
  len := h.len
  sub := fun j p u hp hu => (h.sub j p u hp hu).same fun g hg => hk.block g (h.far g hg).2.1 (hD g (h.far g hg).1 (h.far g hg).2.1)
  far := fun g hg => ⟨(h.far g hg).1, Nat.lt_of_lt_of_le (h.far g hg).2.1 hk.size, (h.far g hg).2.2⟩
theorem Prt.kept {D : Nat → Prop} {w w' : World} {B : Nat} {v : Value} {ps : List Pt} (h : Prt w B v ps) (hk : Kept D w w') (hD : ∀ k, B ≤ k → k < w.heap.size → ¬ D k) : Prt w' B v ps := by
  obtain ⟨vs, F, h⟩ := h
  exact ⟨vs, F, h.kept hk hD⟩
theorem Prt.nil (w : World) (B : Nat) : Prt w B (.slice none 0 0) [] :=
  ⟨[], fun _ => False, World.ownsRow_nil _ _ _ _, rfl, fun _ _ _ h => by simp at h, fun _ h => h.elim⟩
theorem Prt.shape {w : World} {B : Nat} {v : Value} {ps : List Pt} (h : Prt w B v ps) : ∃ a c, v = .slice a ps.length c := by
  obtain ⟨vs, F, h⟩ := h
  rcases h.own.2 with ⟨hv, h0⟩ | ⟨g, cap, cur, hv, _⟩
  · exact ⟨none, 0, by rw [hv, h0]⟩
  · exact ⟨_, _, hv⟩
theorem Prt.lt {w : World} {B : Nat} {v : Value} {ps : List Pt} (h : Prt w B v ps) (g : Nat) (hg : v.ownBlock = some g) : B ≤ g ∧ g < w.heap.size := by
  obtain ⟨vs, F, h⟩ := h
  exact World.ownsRow.lt h.own g hg
/-- What is made is a word. -/
theorem Prt.word {w : World} {B : Nat} {v : Value} {ps : List Pt} (h : Prt w B v ps) : WordN w B v ps := by
  obtain ⟨vs, F, h⟩ := h
  exact ⟨fun g => F g ∨ v.ownBlock = some g, .row v ps vs (ownsRow_base h.own fun _ _ => Nat.zero_le _) h.len (fun _ hg => .inr hg) (fun j p u hp hu => (h.sub j p u hp hu).mono fun _ h => .inl h), fun g hg => hg.elim (fun hg => ⟨(h.far g hg).1, (h.far g hg).2.1⟩) fun hg => World.ownsRow.lt h.own g hg⟩

/-- One part more. -/
theorem PrtO.add {w0 w1 : World} {B C g cap : Nat} {v u : Value} {vs : List Value} {F : Nat → Prop} {ps : List Pt} {p : Pt} {o : Obj} (h : PrtO w0 B v vs F ps) (hC : WordN w0 C u p.word) (hBC : B ≤ C) (hvC : ∀ g, v.ownBlock = some g → g < C)
    (hown : w1.ownsRow B 30 5 (.slice (some ⟨g, 0, none⟩) (ps.length + 1) cap) (ps.length + 1) (rowCells ps vs ++ pcells p u)) (hgrow : (w0.alloc o).grownBy w1 v.ownBlock) (hat : v.ownBlock = some g ∨ g = w0.heap.size + 1) :
    Prt w1 B (.slice (some ⟨g, 0, none⟩) (ps.length + 1) cap) (ps ++ [p]) := by
  obtain ⟨F2, c1, c2⟩ := hC
  have hsz : (w0.alloc o).heap.size = w0.heap.size + 1 := by simp
  have hs1 := hgrow.size
  rw [hsz] at hs1
  have hold : ∀ j, j < w0.heap.size → v.ownBlock ≠ some j → w1.heap[j]? = w0.heap[j]? := fun j hj hn => (hgrow.block j (by rw [hsz]; omega) (fun e => hn e.symm)).trans (Below.heap_alloc _ _ _ hj)
  have hg : ∀ i, i < w0.heap.size → v.ownBlock ≠ some i → g ≠ i := fun i hi hn e => hat.elim (fun e2 => hn (by rw [e2, e])) fun e2 => by omega
  refine ⟨vs ++ [u], fun j => F j ∨ F2 j, { own := ?_, len := by simp [h.len], sub := fun j q x hq hx => ?_, far := fun j hj => ?_ }⟩
  · rw [rowCells_append _ _ _ _ h.len]
    simpa [rowCells] using hown
  · rcases Nat.lt_or_ge j ps.length with hj | hj
    · rw [List.getElem?_append_left hj] at hq
      rw [List.getElem?_append_left (by rw [← h.len]; exact hj)] at hx
      exact ((h.sub j q x hq hx).same fun i hi => hold i (h.far i hi).2.1 (h.far i hi).2.2).mono fun i hi => .inl hi
    · rw [List.getElem?_append_right hj] at hq
      rw [List.getElem?_append_right (by rw [← h.len]; exact hj)] at hx
      obtain ⟨hj0, hq0⟩ := List.getElem?_eq_some_iff.1 hq
      obtain ⟨_, hx0⟩ := List.getElem?_eq_some_iff.1 hx
      simp only [List.length_singleton] at hj0
      simp only [List.getElem_singleton] at hq0 hx0
      subst hq0 hx0
      exact (c1.same fun i hi => hold i (c2 i hi).2 (fun e => by have := hvC i e; have := (c2 i hi).1; omega)).mono fun i hi => .inr hi
  · rcases hj with hj | hj
    · obtain ⟨a1, a2, a4⟩ := h.far j hj
      exact ⟨a1, by omega, fun e => hg j a2 a4 (by simpa [Value.ownBlock] using e)⟩
    · obtain ⟨a1, a2⟩ := c2 j hj
      exact ⟨by omega, by omega, fun e => hg j a2 (fun e2 => by have := hvC j e2; omega) (by simpa [Value.ownBlock] using e)⟩

theorem addr_at (g j : Nat) : (⟨g, 0, none⟩ : Addr).add j = ⟨g, j, none⟩ := by simp [Addr.add]; omega
/-- A row with at least one part. -/
theorem PrtO.form {w : World} {B : Nat} {v : Value} {vs : List Value} {F : Nat → Prop} {ps : List Pt} {p : Pt} (h : PrtO w B v vs F (ps ++ [p])) :
    ∃ A cap vs0 u, v = .slice (some ⟨A, 0, none⟩) (ps.length + 1) cap ∧ vs = vs0 ++ [u] ∧ ps.length = vs0.length ∧ B ≤ A ∧ A < w.heap.size ∧
      (∀ i, i < 5 → w.cell? ⟨A, ps.length * 5 + i, none⟩ = (pcells p u)[i]?) ∧ (∀ j x, (rowCells (ps ++ [p]) vs)[j]? = some x → w.cell? ((⟨A, 0, none⟩ : Addr).add j) = some x) := by
  have hl := h.len
  rw [List.length_append, List.length_singleton] at hl
  rcases List.eq_nil_or_concat vs with rfl | ⟨vs0, u, rfl⟩
  · simp at hl
  rw [List.concat_eq_append] at h hl ⊢
  rw [List.length_append, List.length_singleton] at hl
  have ho := h.own
  rw [List.length_append, List.length_singleton] at ho
  obtain ⟨A, cap, rfl, hB, hA⟩ := World.ownsRow.form ho (by omega)
  refine ⟨A, cap, vs0, u, rfl, rfl, by omega, hB, hA, fun i hi => ?_, fun j x hx => ?_⟩
  · rw [ho.cellAt _ (by omega), rowCells_get (ps ++ [p]) (vs0 ++ [u]) ps.length p u (by simp) (by rw [show ps.length = vs0.length by omega]; simp) (by simp; omega) i hi]
  · have hj := (List.getElem?_eq_some_iff.1 hx).1
    rw [rowCells_length _ _ h.len, List.length_append, List.length_singleton] at hj
    rw [addr_at, ho.cellAt _ (by omega), hx]

theorem prt_append {ops : Array Oper} {rest : List Oper} {o : Oper} {a : Act} {Q : Exit → Act → World → Prop} {W : World} (hgd : o.guard = none) (s x : Operand)
    (ho : o.op = .call { callee := .builtin .append, args := #[s, x], argTypes := #[28, 28] }) (base : Nat) (v : Value) (k : Nat) (xs : List Value) (hs : a.eval s = v)
    (hown : W.ownsRow base 30 5 v k xs) (ad : Addr) (u1 u2 u3 u4 u5 : Value) (hx : a.eval x = .slice (some ad) 1 1) (hnews : ∀ (j : Nat) (u : Value), [u1, u2, u3, u4, u5][j]? = some u → W.cell? (ad.add j) = some u)
    (h1 : ∀ u ∈ [u1, u2, u3, u4, u5], u.oneCell' = true) (hk : k ≤ 4000) (hbase : base ≤ W.heap.size) (H : Nat) (hH : W.heap.size = H)
    (h : ∀ g cap w', w'.ownsRow base 30 5 (.slice (some ⟨g, 0, none⟩) (k + 1) cap) (k + 1) (xs ++ [u1, u2, u3, u4, u5]) → W.grownBy w' v.ownBlock → (v.ownBlock = some g ∨ g = H) → g < w'.heap.size → wpList Tryd.prog ops Q rest (a.put o.dst (.slice (some ⟨g, 0, none⟩) (k + 1) cap)) w') :
    wpList Tryd.prog ops Q (o :: rest) a W := by
  obtain ⟨i0, hi, hz0, hz1, hz2⟩ := info_parts infoPart
  exact wpList_append_lies W hgd s x 28 ho base 30 i0 (.agg zeroPart) 5 72 Tryd.underlying28 hi hz0 hz1 hz2 rfl (by decide)
    v k xs hs hown ad 1 1 [u1, u2, u3, u4, u5] hx rfl hnews h1 (by decide) (by unfold maxLen; omega) (by omega) hbase H hH h
theorem prt_news {w : World} (cs : Array Value) (t : TypeId) : ∀ (j : Nat) (u : Value), cs.toList[j]? = some u → (w.alloc (.cells cs t)).cell? ((⟨w.heap.size, 0, none⟩ : Addr).add j) = some u := by
  intro j u hu
  exact World.news_of_block (heap_alloc_new w (.cells cs t)) j u hu

/-- Behind the append of a literal part. -/
theorem PrtO.litend {w w1 : World} {B g cap k : Nat} {v v' : Value} {vs : List Value} {F : Nat → Prop} {ps : List Pt} {p : Pt} {u : Value} {o : Obj} {T : ByteArray} (h : PrtO w B v vs F ps) (hB : B ≤ w.heap.size) (hk : ps.length = k) (hv : v'.ownBlock = v.ownBlock) (hw : WordN w w.heap.size u p.word) (hT : txt p.text = .string T) (hO : p.op = [])
    (hown : w1.ownsRow B 30 5 (.slice (some ⟨g, 0, none⟩) (k + 1) cap) (k + 1) (rowCells ps vs ++ [.int .i64 p.kind, .string T, .string ⟨#[]⟩, u, .bool p.q])) (hgrow : (w.alloc o).grownBy w1 v'.ownBlock) (hat : v'.ownBlock = some g ∨ g = w.heap.size + 1) :
    Prt w1 B (.slice (some ⟨g, 0, none⟩) (k + 1) cap) (ps ++ [p]) ∧ Kept (fun k => B ≤ k) w w1 := by
  subst hk
  rw [hv] at hgrow hat
  refine ⟨h.add hw hB (fun j e => (World.ownsRow.lt h.own j e).2) ?_ hgrow hat, ?_⟩
  · rw [show pcells p u = [.int .i64 p.kind, .string T, .string ⟨#[]⟩, u, .bool p.q] by unfold pcells; rw [hT, hO]; rfl]
    exact hown
  · exact Kept.grown (D := fun k => B ≤ k) ((Kept.refl _ w).alloc o) hgrow fun j e => .inl (World.ownsRow.lt h.own j e).1

set_option maxHeartbeats 1000000 in
theorem rlit_first {w : World} {B : Nat} {v : Value} (h : Prt w B v []) (t : List UInt8) (q : Bool) (hBw : B ≤ w.heap.size) :
    Calls Tryd.prog 42 #[v, txt t, .bool q] w fun e w' => ∃ v', e = .returned v' ∧ Prt w' B v' [⟨1, t, [], [], q⟩] ∧ Kept (fun k => B ≤ k) w w' := by
  obtain ⟨a, c, rfl⟩ := h.shape
  obtain ⟨vs, F, h⟩ := h
  have HH := Lib.hid h
  have HO := Lib.hid (show ∀ o1, (w.alloc o1).ownsRow B 30 5 (.slice a 0 c) 0 (rowCells [] vs) from fun o1 => h.own.alloc o1)
  have HB := Lib.hid hBw
  obtain ⟨T, hT⟩ : ∃ T : ByteArray, txt t = .string T := ⟨_, rfl⟩
  have HT := Lib.hid hT
  have HZ := Lib.hid (show ∀ o1, B ≤ (w.alloc o1).heap.size ∧ (w.alloc o1).heap.size = w.heap.size + 1 from fun o1 => ⟨by simp; omega, by simp⟩)
  rw [hT]
  clear h hBw hT
  simp only [List.length_nil]
  go_enter Tryd.func42, Tryd.ntmps42
  go_wp2_with (at_builtin; refine prt_append rfl _ _ rfl B _ 0 _ rfl (HO.out _) ⟨w.heap.size, 0, none⟩ _ _ _ _ _ rfl (prt_news _ _) (by intro x hx; simp at hx; rcases hx with rfl | rfl | rfl | rfl | rfl <;> rfl) (by omega) (HZ.out _).1 (w.heap.size + 1) (HZ.out _).2 ?_; intro g cap w1 hown hg hat _; have H1 := Lib.hid (And.intro hown (And.intro hg hat)); clear hown hg hat)
  go_ret
  exact ⟨_, rfl, HH.out.litend (p := ⟨1, t, [], [], q⟩) HB.out rfl rfl (WordN.nil _ _) HT.out rfl H1.out.1 H1.out.2.1 H1.out.2.2⟩

set_option maxHeartbeats 1000000 in
theorem rlit_more {w : World} {B : Nat} {v : Value} {ps : List Pt} {p : Pt} (h : Prt w B v (ps ++ [p])) (t : List UInt8) (q : Bool) (hno : ¬ (p.kind = 1 ∧ p.q = q)) (hn : ps.length ≤ 3999) (hBw : B ≤ w.heap.size) :
    Calls Tryd.prog 42 #[v, txt t, .bool q] w fun e w' => ∃ v', e = .returned v' ∧ Prt w' B v' (ps ++ [p] ++ [⟨1, t, [], [], q⟩]) ∧ Kept (fun k => B ≤ k) w w' := by
  obtain ⟨vs, F, h⟩ := h
  obtain ⟨A, cp, vs0, u, rfl, rfl, hl, hB, hA, hc, -⟩ := h.form
  obtain ⟨pk, hpk⟩ : ∃ pk, p.kind = pk := ⟨_, rfl⟩
  obtain ⟨pq, hpq⟩ : ∃ pq, p.q = pq := ⟨_, rfl⟩
  have k0 := hc 0 (by omega)
  have k4 := hc 4 (by omega)
  simp only [pcells, List.getElem?_cons_zero, List.getElem?_cons_succ, Nat.add_zero, hpk, hpq] at k0 k4
  rw [hpk, hpq] at hno
  have HH := Lib.hid h
  have ho := h.own
  rw [List.length_append, List.length_singleton] at ho
  obtain ⟨n, hn'⟩ : ∃ n, ps.length = n := ⟨_, rfl⟩
  rw [hn'] at k0 k4 ho HH ⊢
  have HO := Lib.hid (show ∀ o1, (w.alloc o1).ownsRow B 30 5 (.slice (some ⟨A, 0, none⟩) (n + 1) cp) (n + 1) (rowCells (ps ++ [p]) (vs0 ++ [u])) from fun o1 => ho.alloc o1)
  have HN := Lib.hid (show (ps ++ [p]).length = n + 1 by simp [hn'])
  have HB := Lib.hid hBw
  obtain ⟨T, hT⟩ : ∃ T : ByteArray, txt t = .string T := ⟨_, rfl⟩
  have HT := Lib.hid hT
  have HZ := Lib.hid (show ∀ o1, B ≤ (w.alloc o1).heap.size ∧ (w.alloc o1).heap.size = w.heap.size + 1 from fun o1 => ⟨by simp; omega, by simp⟩)
  rw [hT]
  have hn1 : (n : Int) ≤ 10000 := by omega
  have hn0 : (0 : Int) ≤ n := by omega
  have hn2 : (0 : Int) ≤ (n : Int) + 1 := by omega
  have hn3 : (n : Int) < (n : Int) + 1 := by omega
  have HLE := Lib.hid (show n + 1 ≤ 4000 by omega)
  clear h hT hBw ho hn hn' hc hl hB hA hpk hpq
  by_cases hk : pk = 1
  · have hqq : (pq == q) = false := by
      have hq : ¬ pq = q := fun e => hno ⟨hk, e⟩
      simpa using hq
    subst hk
    clear hno
    go_enter Tryd.func42, Tryd.ntmps42
    go_wp2_with (at_builtin; refine prt_append rfl _ _ rfl B _ (n + 1) _ rfl (HO.out _) ⟨w.heap.size, 0, none⟩ _ _ _ _ _ rfl (prt_news _ _) (by intro x hx; simp at hx; rcases hx with rfl | rfl | rfl | rfl | rfl <;> rfl) HLE.out (HZ.out _).1 (w.heap.size + 1) (HZ.out _).2 ?_; intro g cap w1 hown hg hat _; have H1 := Lib.hid (And.intro hown (And.intro hg hat)); clear hown hg hat)
    go_ret
    exact ⟨_, rfl, HH.out.litend (p := ⟨1, t, [], [], q⟩) HB.out HN.out rfl (WordN.nil _ _) HT.out rfl H1.out.1 H1.out.2.1 H1.out.2.2⟩
  · have hkk : (pk == 1) = false := by simpa using hk
    clear hno hk
    go_enter Tryd.func42, Tryd.ntmps42
    go_wp2_with (at_builtin; refine prt_append rfl _ _ rfl B _ (n + 1) _ rfl (HO.out _) ⟨w.heap.size, 0, none⟩ _ _ _ _ _ rfl (prt_news _ _) (by intro x hx; simp at hx; rcases hx with rfl | rfl | rfl | rfl | rfl <;> rfl) HLE.out (HZ.out _).1 (w.heap.size + 1) (HZ.out _).2 ?_; intro g cap w1 hown hg hat _; have H1 := Lib.hid (And.intro hown (And.intro hg hat)); clear hown hg hat)
    go_ret
    exact ⟨_, rfl, HH.out.litend (p := ⟨1, t, [], [], q⟩) HB.out HN.out rfl (WordN.nil _ _) HT.out rfl H1.out.1 H1.out.2.1 H1.out.2.2⟩

theorem rowCells_one (ps : List Pt) (vs : List Value) : ∀ x ∈ rowCells ps vs, (∀ v ∈ vs, v.oneCell' = true) → x.oneCell' = true := by
  induction ps generalizing vs with
  | nil => intro x hx; cases vs <;> cases hx
  | cons p ps ih =>
    intro x hx hv
    cases vs with
    | nil => cases hx
    | cons v vs =>
      rw [rowCells] at hx
      rcases List.mem_append.1 hx with hx | hx
      · simp only [pcells, List.mem_cons, List.not_mem_nil, or_false] at hx
        rcases hx with rfl | rfl | rfl | rfl | rfl
        · rfl
        · rfl
        · rfl
        · exact hv _ (by simp)
        · rfl
      · exact ih vs x hx fun y hy => hv y (by simp [hy])
theorem WordV.one {w : World} {F : Nat → Prop} {v : Value} {ps : List Pt} (h : WordV w F v ps) : v.oneCell' = true := by
  cases h with
  | row _ _ vs h1 _ _ _ =>
    rcases h1.2 with ⟨rfl, _⟩ | ⟨g, cap, cur, rfl, _⟩
    · rfl
    · rfl
theorem PrtO.ones {w : World} {B : Nat} {v : Value} {vs : List Value} {F : Nat → Prop} {ps : List Pt} (h : PrtO w B v vs F ps) : ∀ x ∈ rowCells ps vs, x.oneCell' = true := fun x hx =>
  rowCells_one ps vs x hx fun y hy => by
    obtain ⟨j, hj, rfl⟩ := List.mem_iff_getElem.1 hy
    have hl := h.len
    exact (h.sub j (ps[j]'(by omega)) vs[j] (List.getElem?_eq_getElem _) (List.getElem?_eq_getElem _)).one

/-- The copy, whose last text is another one. -/
theorem PrtO.copied {w w1 : World} {B g cap k : Nat} {v : Value} {vs0 : List Value} {u : Value} {F : Nat → Prop} {ps : List Pt} {p : Pt} {o : Obj} {e : Option Nat} (h : PrtO w B v (vs0 ++ [u]) F (ps ++ [p])) (hk : ps.length = k) (hl : ps.length = vs0.length)
    (hown : w1.ownsRow B 30 5 (.slice (some ⟨g, 0, none⟩) (k + 1) cap) (k + 1) (rowCells (ps ++ [p]) (vs0 ++ [u]))) (hgrow : (w.alloc o).grownBy w1 e) (he : e = some w.heap.size) (hg : w.heap.size ≤ g) (t : List UInt8) :
    Prt (w1.setCell ⟨g, k * 5 + 1, none⟩ (txt t)) B (.slice (some ⟨g, 0, none⟩) (k + 1) cap) (ps ++ [{ p with text := t }]) ∧ Kept (fun k => B ≤ k) w (w1.setCell ⟨g, k * 5 + 1, none⟩ (txt t)) := by
  subst hk he
  have hK : Kept (fun _ => False) w w1 := Kept.grown ((Kept.refl _ w).alloc o) hgrow fun j e => .inr (by cases e; exact Nat.le_refl _)
  have hK2 : Kept (fun _ => False) w (w1.setCell ⟨g, ps.length * 5 + 1, none⟩ (txt t)) := hK.setCell (.inr hg) _
  have hs := (hown.stored (ps.length * 5 + 1) (txt t)).1
  rw [rowCells_set ps vs0 p u t hl] at hs
  refine ⟨⟨vs0 ++ [u], F, ?_, by simpa using h.len, fun j q x hq hx => ?_, fun i hi => ?_⟩, hK2.mono fun _ _ h => h.elim⟩
  · simpa using hs
  · have hsub : ∀ q', (ps ++ [p])[j]? = some q' → q'.word = q.word → WordV (w1.setCell ⟨g, ps.length * 5 + 1, none⟩ (txt t)) F x q.word := fun q' hq' e => by
      rw [← e]
      exact (h.sub j q' x hq' hx).same fun i hi => hK2.block i (h.far i hi).2.1 fun h => h
    rcases Nat.lt_or_ge j ps.length with hj | hj
    · rw [List.getElem?_append_left hj] at hq
      exact hsub q (by rw [List.getElem?_append_left hj]; exact hq) rfl
    · rw [List.getElem?_append_right hj] at hq
      obtain ⟨hj0, hq0⟩ := List.getElem?_eq_some_iff.1 hq
      simp only [List.length_singleton] at hj0
      obtain rfl : j = ps.length := by omega
      refine hsub p (by simp) ?_
      rw [← hq0]; simp
  · obtain ⟨h1, h2, -⟩ := h.far i hi
    exact ⟨h1, Nat.lt_of_lt_of_le h2 hK2.size, fun e => by simp only [Value.ownBlock, Option.some.injEq] at e; omega⟩

set_option maxHeartbeats 1000000 in
theorem rlit_join {w : World} {B : Nat} {v : Value} {ps : List Pt} {p : Pt} (h : Prt w B v (ps ++ [p])) (t : List UInt8) (hk : p.kind = 1) (hs : p.text.length + t.length ≤ 100000) (hn : ps.length ≤ 3999) (hBw : B ≤ w.heap.size) :
    Calls Tryd.prog 42 #[v, txt t, .bool p.q] w fun e w' => ∃ v', e = .returned v' ∧ Prt w' B v' (ps ++ [{ p with text := p.text ++ t }]) ∧ Kept (fun k => B ≤ k) w w' := by
  obtain ⟨vs, F, h⟩ := h
  obtain ⟨A, cp, vs0, u, rfl, rfl, hl, hB, hA, hc, hcells⟩ := h.form
  obtain ⟨pq, hpq⟩ : ∃ pq, p.q = pq := ⟨_, rfl⟩
  have k0 := hc 0 (by omega)
  have k4 := hc 4 (by omega)
  simp only [pcells, List.getElem?_cons_zero, List.getElem?_cons_succ, Nat.add_zero, hk, hpq] at k0 k4
  rw [hpq]
  have HPQ := Lib.hid hpq
  have HH := Lib.hid h
  have HL := Lib.hid hl
  have ho := h.own
  rw [List.length_append, List.length_singleton] at ho
  have hgl : (rowCells (ps ++ [p]) (vs0 ++ [u]))[ps.length * 5 + 1]? = some (txt p.text) := by
    rw [rowCells_get (ps ++ [p]) (vs0 ++ [u]) ps.length p u (by simp) (by rw [hl]; simp) (by simp [hl]) 1 (by omega)]
    rfl
  have hrl : (rowCells (ps ++ [p]) (vs0 ++ [u])).length = (ps.length + 1) * 5 := by rw [rowCells_length _ _ (by simp [hl])]; simp
  obtain ⟨n, hn'⟩ : ∃ n, ps.length = n := ⟨_, rfl⟩
  rw [hn'] at k0 k4 ho hgl hrl HH ⊢
  have HN := Lib.hid hn'
  have HB := Lib.hid hBw
  obtain ⟨a, ha⟩ : ∃ a : ByteArray, a = ⟨p.text.toArray⟩ := ⟨_, rfl⟩
  obtain ⟨b, hb⟩ : ∃ b : ByteArray, b = ⟨t.toArray⟩ := ⟨_, rfl⟩
  have hsz : ¬ (9223372036854775807 : Int) < (a.size : Int) + (b.size : Int) := by rw [ha, hb, bytes_size, bytes_size]; omega
  have HAB := Lib.hid (show (.string (a ++ b) : Value) = txt (p.text ++ t) by rw [ha, hb, bytes_append]; rfl)
  rw [show txt t = .string b by rw [hb]; rfl]
  rw [show txt p.text = .string a by rw [ha]; rfl] at hgl
  obtain ⟨i0, hi0, hz0, hz1, hz2⟩ := info_parts infoPart
  have HI := Lib.hid (And.intro hi0 (And.intro hz0 (And.intro hz1 hz2)))
  have HR := Lib.hid (And.intro hrl hgl)
  have H1' := Lib.hid h.ones
  have HCE := Lib.hid (show ∀ o1, ∀ j x, (rowCells (ps ++ [p]) (vs0 ++ [u]))[j]? = some x → (w.alloc o1).cell? ((⟨A, 0, none⟩ : Addr).add j) = some x from fun o1 j x hx => (World.cell?_alloc_lt _ _ _ (by rw [addr_at]; exact hA)).trans (hcells j x hx))
  have HE := Lib.hid (show (w.alloc (.cells #[] 30)).ownsRow B 30 5 (.slice (some ⟨w.heap.size, 0, none⟩) 0 0) 0 [] from World.ownsRow_lit w #[] 0 hBw (by decide) rfl)
  have HZ := Lib.hid (show ∀ o1, B ≤ (w.alloc o1).heap.size ∧ (w.alloc o1).heap.size = w.heap.size + 1 from fun o1 => ⟨by simp; omega, by simp⟩)
  have HC := Lib.hid (show 0 < n + 1 ∧ 0 + (n + 1) ≤ maxLen ∧ (0 + (n + 1)) * 72 ≤ 140737488355328 from ⟨by omega, by unfold maxLen; omega, by omega⟩)
  have hn1 : (n : Int) ≤ 10000 := by omega
  have hn0 : (0 : Int) ≤ n := by omega
  have hn2 : (0 : Int) ≤ (n : Int) + 1 := by omega
  have hn3 : (n : Int) < (n : Int) + 1 := by omega
  clear h hBw ho hn hn' hc hl hB hA hpq hk ha hb hs hcells hrl hgl hi0 hz0 hz1 hz2
  go_enter Tryd.func42, Tryd.ntmps42
  go_wp2_with (at_builtin; refine wpList_append_lies _ rfl _ _ 28 rfl B 30 i0 (.agg zeroPart) 5 72 Tryd.underlying28 HI.out.1 HI.out.2.1 HI.out.2.2.1 HI.out.2.2.2 rfl (by decide) _ 0 [] rfl HE.out ⟨A, 0, none⟩ (n + 1) cp _ rfl HR.out.1 (HCE.out _) H1'.out HC.out.1 HC.out.2.1 HC.out.2.2 (HZ.out _).1 (w.heap.size + 1) (HZ.out _).2 ?_; intro g cap w1 hown hg hat hlt; rw [Nat.zero_add, List.nil_append] at hown; have c1 := hown.cellAt (n * 5 + 1) (by omega); rw [HR.out.2] at c1; have f1 := hown.frozenAt (n * 5 + 1); have H1 := Lib.hid (And.intro hown (And.intro hg (And.intro hat hlt))); clear hown hg hat hlt)
  go_ret
  obtain ⟨hown, hg, hat, -⟩ := H1.out
  have hge : w.heap.size ≤ g := by
    rcases hat with e | e
    · exact Nat.le_of_eq (Option.some.inj e)
    · omega
  have hz := HH.out.copied HN.out HL.out hown hg rfl hge (p.text ++ t)
  rw [← HPQ.out, HAB.out]
  exact ⟨_, rfl, hz⟩

/-- A Lit more. -/
theorem rlit_any {w : World} {B : Nat} {v : Value} {xs : List Nat} {ps : List Pt} (h : Prt w B v ps) (hf : Fits xs ps) (hB : B ≤ w.heap.size) (t : List UInt8) (ht : t.length ≤ 16000) (q : Bool) :
    Calls Tryd.prog 42 #[v, txt t, .bool q] w fun e w' => ∃ v', e = .returned v' ∧ Prt w' B v' (lit ps t q) ∧ Kept (fun k => B ≤ k) w w' := by
  rcases List.eq_nil_or_concat ps with rfl | ⟨r, p, rfl⟩
  · exact rlit_first h t q hB
  · rw [List.concat_eq_append] at h hf ⊢
    have hl := hf.1
    simp only [List.length_append, List.length_singleton] at hl
    have hp := hf.2 p (by simp)
    rw [lit_last]
    by_cases hc : p.kind = 1 ∧ p.q = q
    · rw [if_pos hc]
      obtain ⟨h1, rfl⟩ := hc
      exact rlit_join h t h1 (by omega) (by omega) hB
    · rw [if_neg hc]
      exact rlit_more h t q hc (by omega) hB
end Go.Proofs.YtloaalapkmbgeaaDoor

namespace Go.Proofs.YtloaalapkmbgeaaDoor
open Go Go.RowKit GlyphMath LexMath

/-- The lexer, beside a row of parts. -/
structure PIn (w : World) (X : Nat) (s : ByteArray) (B : Nat) (v : Value) (xs : List Nat) (ps : List Pt) : Prop where
  lex : LexAt w X s xs
  row : Prt w B v ps
  hX : X < B
  hB : B ≤ w.heap.size
/-- What a call answers that puts parts behind a row. -/
def PrtEnd (w w' : World) (e : Ending) (X : Nat) (s : ByteArray) (B : Nat) (m : Res (List Pt)) : Prop :=
  match m with
  | .ok (ps, r) => ∃ v, e = .returned v ∧ LexAt w' X s r ∧ Prt w' B v ps ∧ Kept (fun k => k = X ∨ B ≤ k) w w'
  | .error c => (∃ a n k, e = .returned (.slice a n k)) ∧ LexErr w' X s c ∧ Kept (fun k => k = X ∨ B ≤ k) w w'
theorem Kept.wideX {X B : Nat} {w w' : World} (h : Kept (fun k => k = X) w w') : Kept (fun k => k = X ∨ B ≤ k) w w' := h.mono fun _ _ h => .inl h
theorem Kept.wideP {X B : Nat} {w w' : World} (h : Kept (fun k => B ≤ k) w w') : Kept (fun k => k = X ∨ B ≤ k) w w' := h.mono fun _ _ h => .inr h
theorem Prt.keptX {w w' : World} {X B : Nat} {v : Value} {ps : List Pt} (h : Prt w B v ps) (hk : Kept (fun k => k = X) w w') (hX : X < B) : Prt w' B v ps := h.kept hk fun k h1 _ e => by omega
theorem Prt.drew {w : World} {B : Nat} {v : Value} {ps : List Pt} (h : Prt w B v ps) : Prt w.drew B v ps := h.kept ((Kept.refl (fun _ => False) w).drew) fun _ _ _ h => h
theorem LexAt.drew {w : World} {X : Nat} {s : ByteArray} {xs : List Nat} (h : LexAt w X s xs) : LexAt w.drew X s xs := h.kept ((Kept.refl (fun _ => False) w).drew) fun _ _ h => h
theorem LexAt.keptB {w w' : World} {X B : Nat} {s : ByteArray} {xs : List Nat} (h : LexAt w X s xs) (hk : Kept (fun k => B ≤ k) w w') (hX : X < B) : LexAt w' X s xs := h.kept hk (fun k _ => by omega)
theorem PIn.step {w w' : World} {X B : Nat} {s : ByteArray} {v : Value} {xs ys : List Nat} {ps : List Pt} (h : PIn w X s B v xs ps) (hl : LexAt w' X s ys) (hk : Kept (fun k => k = X) w w') : PIn w' X s B v ys ps :=
  ⟨hl, h.row.keptX hk h.hX, h.hX, Nat.le_trans h.hB hk.size⟩
theorem PIn.put {w w' : World} {X B : Nat} {s : ByteArray} {v v' : Value} {xs : List Nat} {ps qs : List Pt} (h : PIn w X s B v xs ps) (hr : Prt w' B v' qs) (hk : Kept (fun k => B ≤ k) w w') : PIn w' X s B v' xs qs :=
  ⟨h.lex.keptB hk h.hX, hr, h.hX, Nat.le_trans h.hB hk.size⟩

set_option maxHeartbeats 1000000 in
theorem rsingle_any {w : World} {X B : Nat} {s : ByteArray} {v : Value} {r : List Nat} {ps : List Pt} (h : PIn w X s B v (39 :: r) ps) (hs : s.size ≤ 2000) (hf : Fits (39 :: r) ps) :
    Calls Tryd.prog 39 #[.pointer (some ⟨X, 0, none⟩), v] w fun e w' => PrtEnd w w' e X s B (singleM (39 :: r) ps) := by
  obtain ⟨a0, c0v, hv⟩ := h.row.shape
  have HIN := Lib.hid h
  obtain ⟨i, hl, hp⟩ := h.lex
  have hp1 := hp.fbn1 (by decide)
  have c1 := hl.c1
  have f1 := hl.fz 1
  have HRUN := Lib.hid (fun j hj => hp1.run (k := 39) (by decide) j hj)
  have hend := hp1.run_end (fun r => r == 39)
  have hex := Pos.extract (s := s) (i := i + 1) (p := got (fun r => r == 39) r) (r := left (fun r => r == 39) r) (by rw [got_left]; exact hp1)
  have hle := hend.le
  have hhead := left_head (fun r => r == 39) r
  obtain ⟨L, hL⟩ : ∃ L, (enc (got (fun r => r == 39) r)).length = L := ⟨_, rfl⟩
  rw [hL] at HRUN hend hex hle
  have hi2 : (i : Int) + 1 + (L : Int) ≤ (s.size : Int) := by omega
  have hs2 : (s.size : Int) ≤ 2000 := by omega
  have hi0 : (0 : Int) ≤ (i : Int) := by omega
  have HL := Lib.hid (show Lx (w.setCell ⟨X, 1, none⟩ (.int .i64 ((i : Int) + 1))) X s ((i + 1 + 0 : Nat) : Int) 0 from hl.put1 _)
  have HK := Lib.hid (Kept.setCell (D := fun k => k = X) (Kept.refl _ w) (p := ⟨X, 1, none⟩) (.inl rfl) (.int .i64 ((i : Int) + 1)))
  have HE := Lib.hid (And.intro hend (And.intro hex (And.intro hle (And.intro hhead hL))))
  have HSI := Lib.hid hs
  have HF := Lib.hid hf
  obtain ⟨M, hM⟩ : ∃ M, singleM (39 :: r) ps = M := ⟨_, rfl⟩
  rw [hM]
  have HM := Lib.hid hM
  clear h hl hp hp1 hend hex hle hhead hL hs hM hf
  subst hv
  go_enter Tryd.func39, Tryd.ntmps39
  go_wp2_with fail
  go_loopw [] (fun wr => ∃ (k : Nat), Lx wr X s ((i + 1 + k : Nat) : Int) 0 ∧ k ≤ L ∧ Kept (fun k => k = X) w wr) (fun wr => toEnd wr X s.size)
  case atStart => exact ⟨0, HL.out, Nat.zero_le _, HK.out⟩
  case round =>
    obtain ⟨k, hl, hkL, hk⟩ := hrel
    have hsz := HSI.out
    have HAT := Lib.hid (fun m => rat_any (hl.drewN m) 0 (by omega))
    rw [Nat.add_zero] at HAT
    have c1 := hl.c1
    have f1 := hl.fz 1
    have c0 := hl.c0
    have HH := Lib.hid (And.intro hl (And.intro hkL hk))
    obtain ⟨b, hb⟩ : ∃ b, byteAt s (i + 1 + k) = b := ⟨_, rfl⟩
    rw [hb] at HAT
    by_cases hlt : k < L
    · obtain ⟨g1, g2, g3⟩ := HRUN.out k hlt
      rw [hb] at g1 g2
      have y1 : ((b : Int) == 39) = false := rne g1
      have y2 : ((b : Int) == 0) = false := rne g2
      have HG := Lib.hid (And.intro hlt g3)
      have hj2 : ((i + 1 + k : Nat) : Int) ≤ 2000 := by omega
      obtain ⟨j, hj⟩ : ∃ j : Nat, i + 1 + k = j := ⟨_, rfl⟩
      rw [hj] at c1 hj2
      have HJ := Lib.hid hj
      clear hl hkL hk hsz hb hlt g1 g2 g3 hi2 hj
      go_wp2_with fail
      refine (HAT.out 0).mono ?_
      rintro e w1 ⟨rfl, m1, rfl⟩
      go_wp2_with fail
      refine (HAT.out _).mono ?_
      rintro e w2 ⟨rfl, m2, rfl⟩
      go_wp2_with fail
      have hl2 : Lx ((wr.drewN (m1 + m2)).setCell ⟨X, 1, none⟩ (.int .i64 ((j : Int) + 1))) X s ((i + 1 + (k + 1) : Nat) : Int) 0 := by
        have h1 := (HH.out.1.drewN (m1 + m2)).put1 ((j : Int) + 1)
        rw [show ((i + 1 + (k + 1) : Nat) : Int) = (j : Int) + 1 by have := HJ.out; omega]
        exact h1
      refine ⟨⟨k + 1, hl2, HG.out.1, Kept.setCell (D := fun k => k = X) (HH.out.2.2.drewN _) (.inl rfl) _⟩, ?_⟩
      rw [hl2.toEnd, HH.out.1.toEnd]
      have := HG.out.2
      omega
    · obtain rfl : k = L := by omega
      obtain ⟨hend, hex, hle, hhead, hL⟩ := HE.out
      have hbn := hend.fbn
      rw [hb] at hbn
      cases hz : left (fun r => r == 39) r with
      | nil =>
        rw [hz] at hbn
        obtain rfl : b = 0 := hbn
        have hMM : M = .error 2 := by rw [← HM.out]; unfold singleM; rw [List.tail_cons, hz]; rfl
        have HMM := Lib.hid hMM
        have HFL := Lib.hid (fun m => rfail_no (hl.drewN m) 2)
        obtain ⟨j, hj⟩ : ∃ j : Nat, i + 1 + k = j := ⟨_, rfl⟩
        rw [hj] at c1
        clear hl hkL hk hsz hb hlt hi2 hj hend hex hle hhead hL hz hMM
        go_wp2_with fail
        refine (HAT.out 0).mono ?_
        rintro e w1 ⟨rfl, m1, rfl⟩
        go_wp2_with fail
        refine (HAT.out _).mono ?_
        rintro e w2 ⟨rfl, m2, rfl⟩
        go_wp2_with fail
        refine (HFL.out _).mono ?_
        rintro e w4 ⟨rfl, hl4, hk4⟩
        have H4 := Lib.hid (And.intro hl4 hk4)
        clear hl4 hk4
        go_wp2_with fail
        go_ret
        rw [HMM.out]
        exact ⟨⟨_, _, _, rfl⟩, ⟨.inl rfl, _, H4.out.1⟩, ((HH.out.2.2.drewN _).on H4.out.2).wideX⟩
      | cons x z =>
        have hx : x = 39 := by
          rcases hhead with e | e
          · rw [hz] at e; cases e
          · rw [hz] at e; simpa [next] using e
        subst hx
        rw [hz] at hend hbn
        obtain rfl : b = 39 := by rw [hbn]; rfl
        have hMM : M = .ok (lit ps (enc (got (fun r => r == 39) r)) true, z) := by
          rw [← HM.out]; unfold singleM; rw [List.tail_cons, hz]; simp [takes]
        have HMM := Lib.hid hMM
        have hend2 := hend.fbn1 (by decide)
        have hle2 := hend2.le
        obtain ⟨j, hj⟩ : ∃ j : Nat, i + 1 + k = j := ⟨_, rfl⟩
        rw [hj] at c1 hend2 hex hl hle2
        obtain ⟨gs, hgs⟩ : ∃ gs : ByteArray, (⟨(enc (got (fun r => r == 39) r)).toArray⟩ : ByteArray) = gs := ⟨_, rfl⟩
        rw [hgs] at hex
        have hsl : ∀ W, (Instr.slice 9 (.string s) (some (.int .i64 ((i : Int) + 1))) (some (.int .i64 (j : Int))) none).run Tryd.prog W = .ok (.string gs) W := fun W => by
          rw [run_slice_string W 9 s .i64 .i64 _ _ Tryd.underlying9 (by omega) (by omega) (by omega), show ((i : Int) + 1).toNat = i + 1 by omega, show (j : Int).toNat = j by omega, hex]
        have e2 : IntKind.i64.wrap (j : Int) = (j : Int) := IntWalk.i64_in _ ⟨by omega, by omega⟩
        have hj2 : (j : Int) ≤ 2000 := by omega
        have HL2 := Lib.hid (show ∀ m, Lx ((wr.drewN m).setCell ⟨X, 1, none⟩ (.int .i64 ((j : Int) + 1))) X s ((j + 1 : Nat) : Int) 0 from fun m => (hl.drewN m).put1 _)
        have HK2 := Lib.hid (show ∀ m, Kept (fun k => k = X) w ((wr.drewN m).setCell ⟨X, 1, none⟩ (.int .i64 ((j : Int) + 1))) from fun m => Kept.setCell (D := fun k => k = X) (HH.out.2.2.drewN m) (.inl rfl) _)
        have HP2 := Lib.hid hend2
        have HLIT := Lib.hid (fun (W : World) (hW : Prt W B (.slice a0 ps.length c0v) ps) (hBW : B ≤ W.heap.size) => by
          have := rlit_any hW HF.out hBW (enc (got (fun r => r == 39) r)) (by have := hend2.len; have := HSI.out; omega) true
          rw [show txt (enc (got (fun r => r == 39) r)) = .string gs by rw [← hgs]; rfl] at this
          exact this)
        clear hl hkL hk hsz hb hlt hi2 hj hend hend2 hex hle hle2 hhead hL hbn hz hMM hgs
        go_wp2_with fail
        refine (HAT.out 0).mono ?_
        rintro e w1 ⟨rfl, m1, rfl⟩
        go_wp2_with fail
        have hrow := HIN.out.row.keptX (HK2.out m1) HIN.out.hX
        have hbw := Nat.le_trans HIN.out.hB (HK2.out m1).size
        have s0 := (HL2.out m1).c0
        have s1 := (HL2.out m1).c1
        have hkw := HK2.out m1
        rw [Int.natCast_add] at s1
        obtain ⟨WX, hWX⟩ : ∃ WX, ((wr.drewN m1).setCell ⟨X, 1, none⟩ (.int .i64 ((j : Int) + 1))) = WX := ⟨_, rfl⟩
        have hlw := HL2.out m1
        rw [hWX] at hrow hbw s0 s1 hkw hlw ⊢
        have HROW := Lib.hid hrow.drew
        have HBW := Lib.hid (show B ≤ WX.drew.heap.size from hbw)
        have HKW := Lib.hid (And.intro hkw hlw)
        have t0 := (show WX.drew.cell? _ = _ from s0)
        have t1 := (show WX.drew.cell? _ = _ from s1)
        have HNX := Lib.hid (show ¬ B ≤ X by have := HIN.out.hX; omega)
        clear hrow hbw hWX hkw hlw
        go_region_held (fun W => W.cell? ⟨X, 0, none⟩ = some (.string s) ∧ W.cell? ⟨X, 1, none⟩ = some (.int .i64 ((j : Int) + 1))) (first | exact ⟨t0, t1⟩ | assumption | exact ⟨SK.out.1, SK.out.2⟩) ((go_at_call 42; refine (HLIT.out _ HROW.out HBW.out).mono ?_; rintro e w3 ⟨v3, rfl, hr3, hk3⟩; have SK := Lib.hid (And.intro (hk3.cell t0 HNX.out) (hk3.cell t1 HNX.out)); have H3 := Lib.hid (And.intro hr3 hk3); clear hr3 hk3))
        go_wp2_with fail
        go_ret
        rw [HMM.out]
        exact ⟨v3, rfl, (show LexAt WX X s z from ⟨j + 1, HKW.out.2, HP2.out⟩).drew.keptB H3.out.2 HIN.out.hX, H3.out.1, (HKW.out.1.drew.wideX).on H3.out.2.wideP⟩
end Go.Proofs.YtloaalapkmbgeaaDoor

namespace Go.Proofs.YtloaalapkmbgeaaDoor
open Go Go.RowKit GlyphMath LexMath

theorem and_mid : ∀ b : Nat, b < 256 → 128 ≤ b → b < 192 → bits .and .u8 (b : Int) 192 = 128 := by decide +kernel
theorem and_not : ∀ b : Nat, b < 256 → (b < 128 ∨ 192 ≤ b) → (bits .and .u8 (b : Int) 192 == 128) = false := by decide +kernel

/-- The bytes behind a letter's first one. -/
theorem pos_within {s : ByteArray} {i c : Nat} {r : List Nat} (h : Pos s i (c :: r)) {n : Nat} (h1 : 1 ≤ n) (h2 : n < (eb c).length) : i + n < s.size ∧ 128 ≤ byteAt s (i + n) ∧ byteAt s (i + n) < 192 := by
  have hx := h.byte n
  rw [enc, List.getElem?_append_left h2, eb_split] at hx
  rw [eb_split] at h2
  obtain ⟨n, rfl⟩ : ∃ k, n = k + 1 := ⟨n - 1, by omega⟩
  rw [List.getElem?_cons_succ] at hx
  simp only [List.length_cons] at h2
  rw [List.getElem?_eq_getElem (l := tb c) (i := n) (by omega)] at hx
  obtain ⟨hj, -⟩ := byte_get hx
  refine ⟨hj, ?_⟩
  unfold byteAt
  rw [hx]
  exact tb_mid c _ (List.getElem_mem _)
theorem pos_behind {s : ByteArray} {i : Nat} {xs : List Nat} (h : Pos s i xs) : s.size ≤ i ∨ (i < s.size ∧ (byteAt s i < 128 ∨ 192 ≤ byteAt s i)) := by
  rw [h.fbn]
  have hl := h.len
  cases xs with
  | nil => simp [enc] at hl; omega
  | cons c r =>
    right
    have h1 := eb_length c
    simp only [enc, List.length_append] at hl
    obtain ⟨-, -, h3, h4⟩ := fb_facts (h.good c (by simp))
    refine ⟨by omega, ?_⟩
    show fb c < 128 ∨ 192 ≤ fb c
    by_cases hc : c < 128
    · left; rw [(h3 hc).1]; exact hc
    · right; exact h4 (by omega)

theorem rletter_err {w : World} {X : Nat} {s : ByteArray} {i c : Int} (h : Lx w X s i c) (hc : (c != 0) = true) :
    Calls Tryd.prog 43 #[.pointer (some ⟨X, 0, none⟩)] w fun e w' => e = .returned (.string ⟨#[]⟩) ∧ ∃ m, w' = w.drewN m := by
  have c2 := h.c2
  have HF := Lib.hid (fun m => rfail_yes (h.drewN m) (show (c == 0) = false by cases hx : (c == 0) <;> simp_all) 2)
  clear h
  go_enter Tryd.func43, Tryd.ntmps43
  go_wp2_with fail
  go_quiet (fail)
  go_wp2_with fail
  refine (HF.out _).mono ?_
  rintro e w1 ⟨rfl, rfl⟩
  go_wp2_with fail
  go_ret
  exact ⟨rfl, _, rfl⟩
theorem rletter_end {w : World} {X : Nat} {s : ByteArray} {i : Nat} (h : Lx w X s (i : Int) 0) (hi : s.size ≤ i) :
    Calls Tryd.prog 43 #[.pointer (some ⟨X, 0, none⟩)] w fun e w' => e = .returned (.string ⟨#[]⟩) ∧ Lx w' X s (i : Int) 2 ∧ Kept (fun k => k = X) w w' := by
  have c0 := h.c0
  have c1 := h.c1
  have c2 := h.c2
  have h1 : ¬ (i : Int) < (s.size : Int) := by omega
  have HF := Lib.hid (fun m => rfail_no (h.drewN m) 2)
  clear h hi
  go_enter Tryd.func43, Tryd.ntmps43
  go_wp2_with fail
  go_quiet (fail)
  go_wp2_with fail
  refine (HF.out _).mono ?_
  rintro e w1 ⟨rfl, hl, hk⟩
  have H1 := Lib.hid (And.intro hl hk)
  clear hl hk
  go_wp2_with fail
  go_ret
  exact ⟨rfl, H1.out.1, ((Kept.refl _ w).drewN _).on H1.out.2⟩
set_option maxHeartbeats 1000000 in
theorem rletter_any {w : World} {X : Nat} {s : ByteArray} {i c : Nat} {r : List Nat} (h : Lx w X s (i : Int) 0) (hp : Pos s i (c :: r)) (hs : s.size ≤ 2000) :
    Calls Tryd.prog 43 #[.pointer (some ⟨X, 0, none⟩)] w fun e w' => e = .returned (.string ⟨(eb c).toArray⟩) ∧ Lx w' X s ((i + (eb c).length : Nat) : Int) 0 ∧ Kept (fun k => k = X) w w' := by
  have c0 := h.c0
  have c1 := h.c1
  have c2 := h.c2
  have f1 := h.fz 1
  have hL := eb_length c
  have hl := hp.len
  simp only [enc, List.length_append] at hl
  have hex := Pos.extract (p := [c]) hp
  rw [enc_one] at hex
  have HW := Lib.hid (fun n h1 h2 => pos_within hp (n := n) h1 h2)
  have HB := Lib.hid (pos_behind hp.step)
  obtain ⟨L, hLL⟩ : ∃ L, (eb c).length = L := ⟨_, rfl⟩
  rw [hLL] at hL hl hex HW HB ⊢
  have hi : (i : Int) < (s.size : Int) := by omega
  have hi2 : (i : Int) + (L : Int) ≤ (s.size : Int) := by omega
  have hs2 : (s.size : Int) ≤ 2000 := by omega
  have hL1 : (1 : Int) ≤ (L : Int) := by omega
  have hL4 : (L : Int) ≤ 4 := by omega
  have hN1 : 1 ≤ L := hL.1
  have HN := Lib.hid hL
  have HE := Lib.hid hex
  have HH := Lib.hid h
  clear h hp hs hL hl hex hLL
  go_enter Tryd.func43, Tryd.ntmps43
  go_wp2_with fail
  go_quiet (fail)
  go_wp2_with fail
  go_loopw [3] (fun n wr => ∃ k m, n = .int .i64 ((k : Nat) : Int) ∧ 1 ≤ k ∧ k ≤ L ∧ wr = w.drewN m) (fun n _ => L - (intOf n).toNat)
  case atStart => exact ⟨1, _, rfl, Nat.le_refl _, hN1, rfl⟩
  case round =>
    obtain ⟨k, m, rfl, hk1, hk2, rfl⟩ := hrel
    have e1 : IntKind.i64.wrap ((i : Int) + (k : Int)) = (i : Int) + (k : Int) := IntWalk.i64_in _ ⟨by omega, by omega⟩
    obtain ⟨b, hb⟩ : ∃ b, byteAt s (i + k) = b := ⟨_, rfl⟩
    have hb256 : b < 256 := by rw [← hb]; exact byteAt_lt _ _
    by_cases hlt : k < L
    · obtain ⟨g1, g2, g3⟩ := HW.out k hk1 hlt
      rw [hb] at g2 g3
      have h1 : ((i : Int) + (k : Int)) < (s.size : Int) := by omega
      have h2 : 0 ≤ (i : Int) + (k : Int) := by omega
      have hix : ∀ W, (Instr.index 9 (.string s) (.int .i64 ((i : Int) + (k : Int)))).run Tryd.prog W = .ok (.int .u8 (b : Int)) W := fun W => by
        rw [run_index_string W 9 s .i64 _ Tryd.underlying9, dif_pos ⟨h2, h1⟩, ← hb, byteAt_in g1]
        simp only [show ((i : Int) + (k : Int)).toNat = i + k by omega]
      have hand := and_mid b hb256 g2 g3
      have hk3 : (k : Int) + 1 ≤ 9223372036854775807 := by omega
      have HK := Lib.hid hlt
      clear hb hb256 g1 g2 g3 hlt hk1 hk2
      go_wp2_with fail
      go_quiet (fail)
      go_wp2_with fail
      exact ⟨⟨k + 1, _, rfl, by omega, HK.out, rfl⟩, by have := HK.out; simp [intOf]; omega⟩
    · obtain rfl : L = k := by omega
      have HX := Lib.hid (show (s.extract (i : Int).toNat ((i : Int) + (L : Int)).toNat) = ⟨(eb c).toArray⟩ from by rw [show (i : Int).toNat = i by omega, show ((i : Int) + (L : Int)).toNat = i + L by omega]; exact HE.out)
      have hsl : ∀ W, (Instr.slice 9 (.string s) (some (.int .i64 (i : Int))) (some (.int .i64 ((i : Int) + (L : Int)))) none).run Tryd.prog W = .ok (.string ⟨(eb c).toArray⟩) W := fun W => by
        rw [run_slice_string W 9 s .i64 .i64 _ _ Tryd.underlying9 (by omega) (by omega) (by omega), HX.out]
      have e2 : IntKind.i64.wrap (i : Int) = (i : Int) := IntWalk.i64_in _ ⟨by omega, by omega⟩
      rcases HB.out with g | ⟨g, g2⟩
      · have h1 : decide (((i : Int) + (L : Int)) < (s.size : Int)) = false := decide_eq_false (by omega)
        clear hb hb256 hlt hk1 hk2 hi hi2 g hs2
        go_wp2_with fail
        go_quiet (fail)
        go_wp2_with fail
        go_quiet (fail)
        go_wp2_with fail
        go_ret
        exact ⟨rfl, by rw [Int.natCast_add]; exact ((HH.out.drewN _).put1 _).drewN _, (Kept.setCell (D := fun k => k = X) ((Kept.refl _ w).drewN _) (.inl rfl) _).drewN _⟩
      · have h1 : ((i : Int) + (L : Int)) < (s.size : Int) := by omega
        have h2 : 0 ≤ (i : Int) + (L : Int) := by omega
        have hix : ∀ W, (Instr.index 9 (.string s) (.int .i64 ((i : Int) + (L : Int)))).run Tryd.prog W = .ok (.int .u8 (b : Int)) W := fun W => by
          rw [run_index_string W 9 s .i64 _ Tryd.underlying9, dif_pos ⟨h2, h1⟩, ← hb, byteAt_in g]
          simp only [show ((i : Int) + (L : Int)).toNat = i + L by omega]
        rw [hb] at g2
        have hand := and_not b hb256 g2
        clear hb hb256 g g2 hlt hk1 hk2 hi hi2 hs2
        go_wp2_with fail
        go_quiet (fail)
        go_wp2_with fail
        go_quiet (fail)
        go_wp2_with fail
        go_ret
        exact ⟨rfl, by rw [Int.natCast_add]; exact ((HH.out.drewN _).put1 _).drewN _, (Kept.setCell (D := fun k => k = X) ((Kept.refl _ w).drewN _) (.inl rfl) _).drewN _⟩
end Go.Proofs.YtloaalapkmbgeaaDoor

namespace Go.Proofs.YtloaalapkmbgeaaDoor
open Go Go.RowKit GlyphMath LexMath

theorem LexAt.drewN {w : World} {X : Nat} {s : ByteArray} {xs : List Nat} (h : LexAt w X s xs) (m : Nat) : LexAt (w.drewN m) X s xs := h.kept ((Kept.refl (fun _ => False) w).drewN m) fun _ _ h => h
theorem PIn.drewN {w : World} {X B : Nat} {s : ByteArray} {v : Value} {xs : List Nat} {ps : List Pt} (h : PIn w X s B v xs ps) (m : Nat) : PIn (w.drewN m) X s B v xs ps :=
  h.step (h.lex.drewN m) ((Kept.refl _ w).drewN m)
/-- How much is left to do: nothing behind an error. -/
def toGo (w : World) (X n : Nat) : Nat := match w.cell? ⟨X, 2, none⟩ with
  | some (.int _ e) => if e = 0 then toEnd w X n + 1 else 0
  | _ => 0
theorem Lx.toGo {w : World} {X n : Nat} {s : ByteArray} {i : Int} (h : Lx w X s i 0) : toGo w X n = n - i.toNat + 1 := by
  unfold Go.Proofs.YtloaalapkmbgeaaDoor.toGo
  rw [h.c2]
  simp only [if_true, h.toEnd]
theorem LexErr.toGo {w : World} {X n c : Nat} {s : ByteArray} (h : LexErr w X s c) : toGo w X n = 0 := by
  obtain ⟨h0, i, h⟩ := h
  unfold Go.Proofs.YtloaalapkmbgeaaDoor.toGo
  rw [h.c2]
  have : ¬ (c : Int) = 0 := by omega
  simp only [if_neg this]
theorem enc_less {xs ys : List Nat} (h : Less xs ys) : (enc ys).length < (enc xs).length := by
  obtain ⟨⟨l, rfl⟩, h⟩ := h
  rw [List.length_append] at h
  have := enc_length l
  rw [enc_append, List.length_append]
  omega
theorem LexAt.toGo {w : World} {X : Nat} {s : ByteArray} {xs : List Nat} (h : LexAt w X s xs) : toGo w X s.size = (enc xs).length + 1 := by
  obtain ⟨i, h1, h2⟩ := h
  rw [h1.toGo]
  have := h2.len
  simp only [Int.toNat_natCast]
  omega
theorem eb_is {c k : Nat} (hg : GoodL c) (hk : k < 128) : (eb c == [UInt8.ofNat k]) = (c == k) := by
  obtain ⟨h1, h2, h3, h4⟩ := fb_facts hg
  rw [eb_split]
  by_cases hc : c < 128
  · obtain ⟨e1, e2⟩ := h3 hc
    rw [e1, e2]
    refine bool_iff ?_
    simp only [beq_iff_eq, List.cons.injEq, and_true]
    constructor
    · intro h
      have := congrArg UInt8.toNat h
      rwa [byte_of _ (by omega), byte_of _ (by omega)] at this
    · intro h; rw [h]
  · have h5 := h4 (by omega)
    have e1 : (c == k) = false := by
      have : ¬ c = k := by omega
      simpa using this
    rw [e1]
    have : ¬ UInt8.ofNat (fb c) = UInt8.ofNat k := fun h => by
      have := congrArg UInt8.toNat h
      rw [byte_of _ h2, byte_of _ (by omega)] at this
      omega
    simp [this]

theorem within_dollar {br : List Nat → Res Pt} {z : List Nat} {qs : List Pt} : withinM br (36 :: z) qs = dollarM br true (36 :: z) qs := by
  unfold withinM
  rw [if_neg (show ¬ next (36 :: z) = 0 from (by decide : ¬ (36 : Nat) = 0)), if_neg (show ¬ next (36 :: z) = 92 from (by decide : ¬ (36 : Nat) = 92)), if_pos (show next (36 :: z) = 36 from rfl)]
theorem within_back {br : List Nat → Res Pt} {z : List Nat} {qs : List Pt} : withinM br (92 :: z) qs = escapedWithinM (92 :: z) qs := by
  unfold withinM
  rw [if_neg (show ¬ next (92 :: z) = 0 from (by decide : ¬ (92 : Nat) = 0)), if_pos (show next (92 :: z) = 92 from rfl)]
theorem escW {c : Nat} {z : List Nat} {qs : List Pt} : escapedWithinM (92 :: c :: z) qs = .ok (lit qs (if acts c then eb c else [92] ++ eb c) true, z) := by
  show Except.ok (lit (if acts c then qs else lit qs [92] true) (enc [c]) true, z) = _
  rw [enc_one]
  cases acts c
  · rw [if_neg (by decide), if_neg (by decide), lit_lit]
  · rw [if_pos rfl, if_pos rfl]
/-- What is asked of the letter behind a backslash. -/
theorem back_tests {c : Nat} (hg : GoodL c) : (acts c = false ∧ (eb c == [UInt8.ofNat 34]) = false ∧ (eb c == [UInt8.ofNat 36]) = false ∧ (eb c == [UInt8.ofNat 92]) = false) ∨
    (acts c = true ∧ ((eb c == [UInt8.ofNat 34]) = true ∨ ((eb c == [UInt8.ofNat 34]) = false ∧ (eb c == [UInt8.ofNat 36]) = true) ∨ ((eb c == [UInt8.ofNat 34]) = false ∧ (eb c == [UInt8.ofNat 36]) = false ∧ (eb c == [UInt8.ofNat 92]) = true))) := by
  rw [eb_is hg (by omega), eb_is hg (by omega), eb_is hg (by omega)]
  unfold acts
  by_cases h1 : c = 34
  · subst h1; right; decide
  · by_cases h2 : c = 36
    · subst h2; right; decide
    · by_cases h3 : c = 92
      · subst h3; right; decide
      · left; simp [h1, h2, h3]
theorem good_begins {c : Nat} (h : acts c = false) : c ≠ 34 ∧ c ≠ 36 ∧ c ≠ 92 := by
  simp only [acts, Bool.or_eq_false_iff, beq_eq_false_iff_ne, ne_eq] at h
  omega

def RDollarDo (depth : Nat) (br : List Nat → Res Pt) : Prop :=
  ∀ (w : World) (X : Nat) (s : ByteArray) (B : Nat) (v : Value) (r : List Nat) (ps : List Pt), PIn w X s B v (36 :: r) ps → s.size ≤ 2000 → Fits (36 :: r) ps → ∀ q : Bool,
    Calls Tryd.prog 41 #[.pointer (some ⟨X, 0, none⟩), v, .bool q, .int .i64 (depth : Int)] w fun e w' => PrtEnd w w' e X s B (dollarM br q (36 :: r) ps)

/-- What double is doing. -/
structure DbOk (w wr : World) (X : Nat) (s : ByteArray) (B : Nat) (br : List Nat → Res Pt) (M : Res (List Pt)) (f : Nat) (ys : List Nat) (v : Value) (qs : List Pt) (b : Bool) : Prop where
  inn : PIn wr X s B v ys qs
  fits : Fits ys qs
  kept : Kept (fun k => k = X ∨ B ≤ k) w wr
  fuel : ys.length < f
  said : (b = false ∧ next ys = 34 ∧ M = .ok (lit qs [] true, ys.tail)) ∨ (¬ (b = false ∧ next ys = 34) ∧ doubleL br f ys qs = M)
def DbErr (w wr : World) (X : Nat) (s : ByteArray) (B : Nat) (M : Res (List Pt)) : Prop := ∃ c, M = .error c ∧ LexErr wr X s c ∧ Kept (fun k => k = X ∨ B ≤ k) w wr
def DbR (w : World) (X : Nat) (s : ByteArray) (B : Nat) (br : List Nat → Res Pt) (M : Res (List Pt)) (v b : Value) (wr : World) : Prop :=
  ∃ bb, b = .bool bb ∧ ((∃ f ys qs, DbOk w wr X s B br M f ys v qs bb) ∨ DbErr w wr X s B M)

/-- A round goes on. -/
theorem DbOk.go {w wr w' : World} {X B f : Nat} {s : ByteArray} {br : List Nat → Res Pt} {M : Res (List Pt)} {ys ys' : List Nat} {v v' : Value} {qs qs' : List Pt} {b : Bool} (h : DbOk w wr X s B br M (f + 1) ys v qs b) (hl : Less ys ys') (hm : doubleL br f ys' qs' = M) (hi : PIn w' X s B v' ys' qs') (hf : Fits ys' qs') (hk : Kept (fun k => k = X ∨ B ≤ k) wr w') :
    DbR w X s B br M v' (.bool true) w' ∧ toGo w' X s.size < toGo wr X s.size := by
  refine ⟨⟨true, rfl, .inl ⟨f, ys', qs', hi, hf, h.kept.on hk, by have := h.fuel; have := hl.2; omega, .inr ⟨by simp, hm⟩⟩⟩, ?_⟩
  rw [hi.lex.toGo, h.inn.lex.toGo]
  have := enc_less hl
  omega
theorem DbOk.stop {w wr w' : World} {X B f c : Nat} {s : ByteArray} {br : List Nat → Res Pt} {M : Res (List Pt)} {ys : List Nat} {v v' : Value} {qs : List Pt} {b : Bool} (h : DbOk w wr X s B br M f ys v qs b) (hm : M = .error c) (he : LexErr w' X s c) (hk : Kept (fun k => k = X ∨ B ≤ k) wr w') :
    DbR w X s B br M v' (.bool true) w' ∧ toGo w' X s.size < toGo wr X s.size := by
  refine ⟨⟨true, rfl, .inr ⟨c, hm, he, h.kept.on hk⟩⟩, ?_⟩
  rw [he.toGo, h.inn.lex.toGo]
  omega

set_option maxHeartbeats 2000000 in
theorem rdouble_any {depth : Nat} {br : List Nat → Res Pt} (hb : BraceOk br) (hD : RDollarDo depth br) {w : World} {X B : Nat} {s : ByteArray} {v : Value} {r : List Nat} {ps : List Pt} (h : PIn w X s B v (34 :: r) ps) (hs : s.size ≤ 2000) (hf : Fits (34 :: r) ps) :
    Calls Tryd.prog 40 #[.pointer (some ⟨X, 0, none⟩), v, .int .i64 (depth : Int)] w fun e w' => PrtEnd w w' e X s B (doubleM br (34 :: r) ps) := by
  obtain ⟨M, hM⟩ : ∃ M, doubleM br (34 :: r) ps = M := ⟨_, rfl⟩
  rw [hM]
  obtain ⟨i, hl, hp⟩ := h.lex
  have c1 := hl.c1
  have f1 := hl.fz 1
  have hp1 := hp.fbn1 (by decide)
  have hle1 := hp1.le
  have hi2 : (i : Int) ≤ 2000 := by omega
  have HST := Lib.hid (show DbR w X s B br M v (.bool false) (w.setCell ⟨X, 1, none⟩ (.int .i64 ((i : Int) + 1))) from by
    have hl1 : Lx (w.setCell ⟨X, 1, none⟩ (.int .i64 ((i : Int) + 1))) X s ((i + 1 : Nat) : Int) 0 := hl.put1 _
    have hk1 := Kept.setCell (D := fun k => k = X) (Kept.refl _ w) (p := ⟨X, 1, none⟩) (.inl rfl) (.int .i64 ((i : Int) + 1))
    refine ⟨false, rfl, .inl ⟨(34 :: r).length + 1, r, ps, h.step ⟨i + 1, hl1, hp1⟩ hk1, hf.mono (by simp), hk1.wideX, by simp; omega, ?_⟩⟩
    have hm : doubleL br ((34 :: r).length + 1) r (if next r = 34 then lit ps [] true else ps) = M := hM
    by_cases h34 : next r = 34
    · left
      rw [if_pos h34, doubleL, takes_one, if_pos ⟨h34, fun e => by rw [e] at h34; cases h34⟩] at hm
      exact ⟨rfl, h34, hm.symm⟩
    · right
      rw [if_neg h34] at hm
      exact ⟨fun e => h34 e.2, hm⟩)
  have HB := Lib.hid hb
  have HD := Lib.hid hD
  have HSZ := Lib.hid hs
  clear h hl hp hp1 hle1 hs hf hM hb hD
  go_enter Tryd.func40, Tryd.ntmps40
  go_wp2_with fail
  go_loopw [1, 7] (fun v b wr => DbR w X s B br M v b wr) (fun _ _ wr => toGo wr X s.size)
  case atStart => exact HST.out
  case round =>
    obtain ⟨bb, rfl, hR | hR⟩ := hrel
    · obtain ⟨f, ys, qs, hR⟩ := hR
      obtain ⟨f, rfl⟩ : ∃ g, f = g + 1 := ⟨f - 1, by have := hR.fuel; omega⟩
      have HR := Lib.hid hR
      obtain ⟨j, hl, hp⟩ := hR.inn.lex
      have HJ := Lib.hid (And.intro hl hp)
      have hsz := HSZ.out
      have hple := hp.le
      have HAT := Lib.hid (fun m => rat_any (hl.drewN m) 0 (by omega))
      rw [Nat.add_zero, hp.fbn] at HAT
      have c1 := hl.c1
      have f1 := hl.fz 1
      obtain ⟨b, hb⟩ : ∃ b, fbn ys = b := ⟨_, rfl⟩
      rw [hb] at HAT
      have hj2 : (j : Int) ≤ 2000 := by omega
      by_cases h34 : b = 34
      · subst h34
        obtain ⟨z, rfl⟩ := eq_of_fbn (by decide) hp.good hb
        have hp2 := hp.fbn1 (by decide)
        have HP2 := Lib.hid hp2
        have HL2 := Lib.hid (show ∀ m, Lx ((wr.drewN m).setCell ⟨X, 1, none⟩ (.int .i64 ((j : Int) + 1))) X s ((j + 1 : Nat) : Int) 0 from fun m => (hl.drewN m).put1 _)
        have HK2 := Lib.hid (show ∀ m, Kept (fun k => k = X) wr ((wr.drewN m).setCell ⟨X, 1, none⟩ (.int .i64 ((j : Int) + 1))) from fun m => Kept.setCell (D := fun k => k = X) ((Kept.refl _ wr).drewN m) (.inl rfl) _)
        clear hR hl hp hp2 hsz hple hb
        cases bb with
        | false =>
          have HM := Lib.hid (show M = .ok (lit qs [] true, z) from by
            rcases HR.out.said with e | e
            · exact e.2.2
            · exact absurd ⟨rfl, rfl⟩ e.1)
          go_wp2_with fail
          refine (HAT.out 0).mono ?_
          rintro e w1 ⟨rfl, m1, rfl⟩
          go_wp2_with fail
          have hin := HR.out.inn.step ⟨_, HL2.out m1, HP2.out⟩ (HK2.out m1)
          refine (rlit_any (xs := z) hin.row (HR.out.fits.mono (by simp)) hin.hB [] (by simp) true).mono ?_
          rintro e w2 ⟨v2, rfl, hr2, hk2⟩
          have H2 := Lib.hid (And.intro hin (And.intro hr2 hk2))
          clear hin hr2 hk2
          go_wp2_with fail
          go_ret
          rw [HM.out]
          exact ⟨v2, rfl, H2.out.1.lex.keptB H2.out.2.2 H2.out.1.hX, H2.out.2.1, (HR.out.kept.on (HK2.out m1).wideX).on H2.out.2.2.wideP⟩
        | true =>
          have HM := Lib.hid (show M = .ok (qs, z) from by
            rcases HR.out.said with e | e
            · exact absurd e.1 (by simp)
            · rw [← e.2, doubleL]; simp [takes])
          go_wp2_with fail
          refine (HAT.out 0).mono ?_
          rintro e w1 ⟨rfl, m1, rfl⟩
          go_wp2_with fail
          go_ret
          rw [HM.out]
          have hin := HR.out.inn.step ⟨_, HL2.out m1, HP2.out⟩ (HK2.out m1)
          exact ⟨_, rfl, hin.lex, hin.row, HR.out.kept.on (HK2.out m1).wideX⟩
      · have y34 : ((b : Int) == 34) = false := rne h34
        have hn34 : next ys ≠ 34 := fun e => h34 (by rw [← hb]; exact (fbn_iff hp.good (by decide)).2 e)
        have hm : doubleL br (f + 1) ys qs = M := by
          rcases hR.said with e | e
          · exact absurd e.2.1 hn34
          · exact e.2
        have HM0 := Lib.hid hm
        rw [doubleL, is34 hn34] at hm
        simp only at hm
        have HN := Lib.hid hn34
        have HIN := Lib.hid hR.inn
        by_cases h0 : b = 0
        · -- the end
          subst h0
          have hy0 : ys = [] := by
            have := (fbn_iff hp.good (k := 0) (by decide)).1 hb
            exact (next_zero hp.good).1 this
          subst hy0
          have HM := Lib.hid (show M = .error 2 from hm.symm)
          have HFL := Lib.hid (fun m => rfail_no (hl.drewN m) 2)
          clear hR hl hp hsz hple hb hm hn34 h34
          go_wp2_with fail
          refine (HAT.out 0).mono ?_
          rintro e w1 ⟨rfl, m1, rfl⟩
          go_wp2_with fail
          refine (HAT.out _).mono ?_
          rintro e w2 ⟨rfl, m2, rfl⟩
          go_wp2_with fail
          refine (HFL.out _).mono ?_
          rintro e w4 ⟨rfl, hl4, hk4⟩
          have H4 := Lib.hid (And.intro hl4 hk4)
          clear hl4 hk4
          go_wp2_with fail
          go_ret
          rw [HM.out]
          exact ⟨⟨_, _, _, rfl⟩, ⟨.inl rfl, _, H4.out.1⟩, (HR.out.kept.drewN _).on H4.out.2.wideX⟩
        · have y0 : ((b : Int) == 0) = false := rne h0
          by_cases h36 : b = 36
          · -- a dollar
            subst h36
            obtain ⟨z, rfl⟩ := eq_of_fbn (by decide) hp.good hb
            rw [within_dollar] at hm
            have HDD := Lib.hid (fun m => HD.out (wr.drewN m) X s B u1 z qs (HIN.out.drewN m) hsz HR.out.fits true)
            obtain ⟨D, hd⟩ : ∃ D, dollarM br true (36 :: z) qs = D := ⟨_, rfl⟩
            rw [hd] at HDD hm
            have HDE := Lib.hid hd
            have HMM := Lib.hid hm
            clear hR hl hp hsz hple hb hm hn34 h34 hd
            go_wp2_with fail
            refine (HAT.out 0).mono ?_
            rintro e w1 ⟨rfl, m1, rfl⟩
            go_wp2_with fail
            refine (HAT.out _).mono ?_
            rintro e w2 ⟨rfl, m2, rfl⟩
            go_wp2_with fail
            refine (HDD.out _).mono ?_
            intro e w3 hE
            cases D with
            | error cc =>
              obtain ⟨⟨a3, n3, k3, rfl⟩, hle, hk3⟩ := hE
              have H3 := Lib.hid (And.intro hle hk3)
              clear hle hk3
              go_wp2_with fail
              exact HR.out.stop HMM.out.symm H3.out.1 ((Kept.refl _ wr).drewN _ |>.on H3.out.2)
            | ok a =>
              obtain ⟨qs', ys'⟩ := a
              obtain ⟨v3, rfl, hle, hr3, hk3⟩ := hE
              have H3 := Lib.hid (And.intro hle (And.intro hr3 hk3))
              clear hle hr3 hk3
              go_wp2_with fail
              obtain ⟨l1, l2⟩ := within_less HB.out (show withinM br (36 :: z) qs = .ok (qs', ys') from within_dollar.trans HDE.out) HN.out
              exact HR.out.go l1 HMM.out ⟨H3.out.1, H3.out.2.1, HIN.out.hX, Nat.le_trans HIN.out.hB H3.out.2.2.size⟩ (l2 HR.out.fits) ((Kept.refl _ wr).drewN _ |>.on H3.out.2.2)
          · have y36 : ((b : Int) == 36) = false := rne h36
            by_cases h92 : b = 92
            · -- a backslash
              subst h92
              obtain ⟨z, rfl⟩ := eq_of_fbn (by decide) hp.good hb
              rw [within_back] at hm
              have hp2 := hp.fbn1 (by decide)
              have HP2 := Lib.hid hp2
              have HL2 := Lib.hid (show ∀ m, Lx ((wr.drewN m).setCell ⟨X, 1, none⟩ (.int .i64 ((j : Int) + 1))) X s ((j + 1 : Nat) : Int) 0 from fun m => (hl.drewN m).put1 _)
              have HK2 := Lib.hid (show ∀ m, Kept (fun k => k = X) wr ((wr.drewN m).setCell ⟨X, 1, none⟩ (.int .i64 ((j : Int) + 1))) from fun m => Kept.setCell (D := fun k => k = X) ((Kept.refl _ wr).drewN m) (.inl rfl) _)
              cases z with
              | nil =>
                have HM := Lib.hid (show M = .error 2 from hm.symm)
                have hend : s.size ≤ j + 1 := by have := hp2.len; simp [enc] at this; omega
                have HLE := Lib.hid (fun m => rletter_end (HL2.out m) hend)
                have e92 : (⟨#[92]⟩ : ByteArray) ++ ⟨#[]⟩ = ⟨#[92]⟩ := by rw [show (⟨#[92]⟩ : ByteArray) = ⟨[92].toArray⟩ from rfl, show (⟨#[]⟩ : ByteArray) = ⟨[].toArray⟩ from rfl, bytes_append]; rfl
                clear hR hl hp hp2 hsz hple hb hm hn34 h34 h0 h36 hend
                go_wp2_with fail
                refine (HAT.out 0).mono ?_
                rintro e w1 ⟨rfl, m1, rfl⟩
                go_wp2_with fail
                refine (HAT.out _).mono ?_
                rintro e w2 ⟨rfl, m2, rfl⟩
                go_wp2_with fail
                refine (HLE.out _).mono ?_
                rintro e w3 ⟨rfl, hl3, hk3⟩
                have H3 := Lib.hid (And.intro hl3 hk3)
                clear hl3 hk3
                go_wp2_with fail
                have hrow := HIN.out.row.keptX ((HK2.out (m1 + m2)).on H3.out.2) HIN.out.hX
                first
                  | refine (rlit_any (xs := [92]) hrow HR.out.fits (Nat.le_trans HIN.out.hB ((HK2.out (m1 + m2)).on H3.out.2).size) [92] (by decide) true).mono ?_
                  | (rw [e92]; refine (rlit_any (xs := [92]) hrow HR.out.fits (Nat.le_trans HIN.out.hB ((HK2.out (m1 + m2)).on H3.out.2).size) [92] (by decide) true).mono ?_)
                rintro e w4 ⟨v4, rfl, hr4, hk4⟩
                have H4 := Lib.hid (And.intro hr4 hk4)
                clear hr4 hk4 hrow
                go_wp2_with fail
                exact HR.out.stop HM.out ⟨.inl rfl, _, H3.out.1.kept H4.out.2 (fun k hk => by have := HIN.out.hX; omega)⟩ (((HK2.out (m1 + m2)).on H3.out.2).wideX.on H4.out.2.wideP)
              | cons c z =>
                rw [escW] at hm
                simp only at hm
                have hgc := hp2.good c (by simp)
                have HLE := Lib.hid (fun m => rletter_any (HL2.out m) hp2 hsz)
                have HP3 := Lib.hid hp2.step
                have htl : (if acts c then eb c else [92] ++ eb c).length + 4 * z.length ≤ 4 * (92 :: c :: z).length := by
                  have := eb_length c
                  split <;> simp <;> omega
                have HF3 := Lib.hid (HR.out.fits.lit (if acts c then eb c else [92] ++ eb c) true (show z.length + 1 ≤ (92 :: c :: z).length by simp) htl)
                have HMM := Lib.hid hm
                have hx := eb_length c
                have hbt := back_tests hgc
                have HLE3 := Lib.hid (show (if acts c then eb c else [92] ++ eb c).length ≤ 16000 from by
                  split
                  · omega
                  · simp only [List.length_append, List.length_singleton]; omega)
                obtain ⟨T, hT⟩ : ∃ T : ByteArray, (⟨(eb c).toArray⟩ : ByteArray) = T := ⟨_, rfl⟩
                have hTl : T.toList = eb c := by rw [← hT]; exact ByteArray.toList_mk _
                have hTz : T.size = (eb c).length := by rw [← hT, bytes_size]
                rw [hT] at HLE
                rw [← hTl] at hbt
                have hsz4 : ¬ (9223372036854775807 : Int) < 1 + (T.size : Int) := by omega
                rcases hbt with ⟨ha, k1, k2, k3⟩ | ⟨ha, hk⟩
                · have k1 := (show (T.toList == [34]) = false from k1)
                  have k2 := (show (T.toList == [36]) = false from k2)
                  have k3 := (show (T.toList == [92]) = false from k3)
                  have HLIT := Lib.hid (fun (W : World) (hW : Prt W B u1 qs) (hBW : B ≤ W.heap.size) => by
                    have := rlit_any hW HR.out.fits hBW (if acts c then eb c else [92] ++ eb c) HLE3.out true
                    rw [show txt (if acts c then eb c else [92] ++ eb c) = .string (⟨#[92]⟩ ++ T) by rw [ha, ← hT, show (⟨#[92]⟩ : ByteArray) = ⟨[92].toArray⟩ from rfl, bytes_append]; rfl] at this
                    exact this)
                  clear hR hl hp hp2 hsz hple hb hm hn34 h34 h0 h36 htl hx hT hTl hTz ha hgc
                  go_wp2_with fail
                  refine (HAT.out 0).mono ?_
                  rintro e w1 ⟨rfl, m1, rfl⟩
                  go_wp2_with fail
                  refine (HAT.out _).mono ?_
                  rintro e w2 ⟨rfl, m2, rfl⟩
                  go_wp2_with fail
                  refine (HLE.out _).mono ?_
                  rintro e w3 ⟨rfl, hl3, hk3⟩
                  have H3 := Lib.hid (And.intro hl3 hk3)
                  clear hl3 hk3
                  go_wp2_with fail
                  have hin := HIN.out.step ⟨_, H3.out.1, HP3.out⟩ ((HK2.out (m1 + m2)).on H3.out.2)
                  refine (HLIT.out _ hin.row hin.hB).mono ?_
                  rintro e w4 ⟨v4, rfl, hr4, hk4⟩
                  have H4 := Lib.hid (And.intro hin (And.intro hr4 hk4))
                  clear hin hr4 hk4
                  go_wp2_with fail
                  exact HR.out.go ⟨⟨[92, c], rfl⟩, by simp; omega⟩ HMM.out (H4.out.1.put H4.out.2.1 H4.out.2.2) HF3.out (((HK2.out (m1 + m2)).on H3.out.2).wideX.on H4.out.2.2.wideP)
                · have HLIT := Lib.hid (fun (W : World) (hW : Prt W B u1 qs) (hBW : B ≤ W.heap.size) => by
                    have := rlit_any hW HR.out.fits hBW (if acts c then eb c else [92] ++ eb c) HLE3.out true
                    rw [show txt (if acts c then eb c else [92] ++ eb c) = .string T by rw [ha, ← hT]; rfl] at this
                    exact this)
                  have hk := (show (T.toList == [34]) = true ∨ ((T.toList == [34]) = false ∧ (T.toList == [36]) = true) ∨ ((T.toList == [34]) = false ∧ (T.toList == [36]) = false ∧ (T.toList == [92]) = true) from hk)
                  clear hR hl hp hp2 hsz hple hb hm hn34 h34 h0 h36 htl hx hT hTl hTz ha hgc
                  rcases hk with k1 | ⟨k1, k2⟩ | ⟨k1, k2, k3⟩
                  · go_wp2_with fail
                    refine (HAT.out 0).mono ?_
                    rintro e w1 ⟨rfl, m1, rfl⟩
                    go_wp2_with fail
                    refine (HAT.out _).mono ?_
                    rintro e w2 ⟨rfl, m2, rfl⟩
                    go_wp2_with fail
                    refine (HLE.out _).mono ?_
                    rintro e w3 ⟨rfl, hl3, hk3⟩
                    have H3 := Lib.hid (And.intro hl3 hk3)
                    clear hl3 hk3
                    go_wp2_with fail
                    have hin := HIN.out.step ⟨_, H3.out.1, HP3.out⟩ ((HK2.out (m1 + m2)).on H3.out.2)
                    refine (HLIT.out _ hin.row hin.hB).mono ?_
                    rintro e w4 ⟨v4, rfl, hr4, hk4⟩
                    have H4 := Lib.hid (And.intro hin (And.intro hr4 hk4))
                    clear hin hr4 hk4
                    go_wp2_with fail
                    exact HR.out.go ⟨⟨[92, c], rfl⟩, by simp; omega⟩ HMM.out (H4.out.1.put H4.out.2.1 H4.out.2.2) HF3.out (((HK2.out (m1 + m2)).on H3.out.2).wideX.on H4.out.2.2.wideP)
                  · go_wp2_with fail
                    refine (HAT.out 0).mono ?_
                    rintro e w1 ⟨rfl, m1, rfl⟩
                    go_wp2_with fail
                    refine (HAT.out _).mono ?_
                    rintro e w2 ⟨rfl, m2, rfl⟩
                    go_wp2_with fail
                    refine (HLE.out _).mono ?_
                    rintro e w3 ⟨rfl, hl3, hk3⟩
                    have H3 := Lib.hid (And.intro hl3 hk3)
                    clear hl3 hk3
                    go_wp2_with fail
                    have hin := HIN.out.step ⟨_, H3.out.1, HP3.out⟩ ((HK2.out (m1 + m2)).on H3.out.2)
                    refine (HLIT.out _ hin.row hin.hB).mono ?_
                    rintro e w4 ⟨v4, rfl, hr4, hk4⟩
                    have H4 := Lib.hid (And.intro hin (And.intro hr4 hk4))
                    clear hin hr4 hk4
                    go_wp2_with fail
                    exact HR.out.go ⟨⟨[92, c], rfl⟩, by simp; omega⟩ HMM.out (H4.out.1.put H4.out.2.1 H4.out.2.2) HF3.out (((HK2.out (m1 + m2)).on H3.out.2).wideX.on H4.out.2.2.wideP)
                  · go_wp2_with fail
                    refine (HAT.out 0).mono ?_
                    rintro e w1 ⟨rfl, m1, rfl⟩
                    go_wp2_with fail
                    refine (HAT.out _).mono ?_
                    rintro e w2 ⟨rfl, m2, rfl⟩
                    go_wp2_with fail
                    refine (HLE.out _).mono ?_
                    rintro e w3 ⟨rfl, hl3, hk3⟩
                    have H3 := Lib.hid (And.intro hl3 hk3)
                    clear hl3 hk3
                    go_wp2_with fail
                    have hin := HIN.out.step ⟨_, H3.out.1, HP3.out⟩ ((HK2.out (m1 + m2)).on H3.out.2)
                    refine (HLIT.out _ hin.row hin.hB).mono ?_
                    rintro e w4 ⟨v4, rfl, hr4, hk4⟩
                    have H4 := Lib.hid (And.intro hin (And.intro hr4 hk4))
                    clear hin hr4 hk4
                    go_wp2_with fail
                    exact HR.out.go ⟨⟨[92, c], rfl⟩, by simp; omega⟩ HMM.out (H4.out.1.put H4.out.2.1 H4.out.2.2) HF3.out (((HK2.out (m1 + m2)).on H3.out.2).wideX.on H4.out.2.2.wideP)
            · -- a mere letter
              cases ys with
              | nil => exact absurd hb.symm h0
              | cons c z =>
                have hac : acts c = false := by
                  have e := fun k (hk : k < 128) => (fbn_iff hp.good hk).2
                  have a1 : c ≠ 34 := hn34
                  have a2 : c ≠ 36 := fun e2 => h36 (by rw [← hb]; exact e 36 (by decide) e2)
                  have a3 : c ≠ 92 := fun e2 => h92 (by rw [← hb]; exact e 92 (by decide) e2)
                  simp [acts, a1, a2, a3]
                have hm2 := HM0.out
                rw [double_one HB.out hp.good hac hR.fuel] at hm2
                have HMM := Lib.hid hm2
                have HLE := Lib.hid (fun m => rletter_any (hl.drewN m) hp hsz)
                have HP3 := Lib.hid hp.step
                have HF3 := Lib.hid (HR.out.fits.lit (eb c) true (show z.length + 1 ≤ (c :: z).length by simp) (by have := eb_length c; simp; omega))
                have y92 : ((b : Int) == 92) = false := rne h92
                have hx := eb_length c
                have HX := Lib.hid (show (eb c).length ≤ 16000 by omega)
                clear hR hl hp hsz hple hb hm hm2 hn34 h34 h0 h36 h92 hac hx
                go_wp2_with fail
                refine (HAT.out 0).mono ?_
                rintro e w1 ⟨rfl, m1, rfl⟩
                go_wp2_with fail
                refine (HAT.out _).mono ?_
                rintro e w2 ⟨rfl, m2, rfl⟩
                go_wp2_with fail
                refine (HLE.out _).mono ?_
                rintro e w3 ⟨rfl, hl3, hk3⟩
                have H3 := Lib.hid (And.intro hl3 hk3)
                clear hl3 hk3
                go_wp2_with fail
                have hin := (HIN.out.drewN (m1 + m2)).step ⟨_, H3.out.1, HP3.out⟩ H3.out.2
                refine (rlit_any (xs := c :: z) hin.row HR.out.fits hin.hB (eb c) HX.out true).mono ?_
                rintro e w4 ⟨v4, rfl, hr4, hk4⟩
                have H4 := Lib.hid (And.intro hin (And.intro hr4 hk4))
                clear hin hr4 hk4
                go_wp2_with fail
                exact HR.out.go ⟨⟨[c], rfl⟩, by simp⟩ HMM.out (H4.out.1.put H4.out.2.1 H4.out.2.2) HF3.out ((((Kept.refl _ wr).drewN _).on H3.out.2).wideX.on H4.out.2.2.wideP)
    · obtain ⟨c, hm, he, hk⟩ := hR
      have hne := he.ne.1
      obtain ⟨hc, j, hl⟩ := he
      have HAT := Lib.hid (fun m => rat_err (hl.drewN m) hne 0)
      have HFL := Lib.hid (fun m => rfail_yes (hl.drewN m) (show ((c : Int) == 0) = false by rcases hc with rfl | rfl <;> rfl) 2)
      have HH := Lib.hid (And.intro hm (And.intro hc (And.intro hl hk)))
      clear hm hc hl hk hne
      go_wp2_with fail
      refine (HAT.out 0).mono ?_
      rintro e w1 ⟨rfl, m1, rfl⟩
      go_wp2_with fail
      refine (HAT.out _).mono ?_
      rintro e w2 ⟨rfl, m2, rfl⟩
      go_wp2_with fail
      refine (HFL.out _).mono ?_
      rintro e w4 ⟨rfl, rfl⟩
      go_wp2_with fail
      go_ret
      rw [HH.out.1]
      exact ⟨⟨_, _, _, rfl⟩, ⟨HH.out.2.1, _, HH.out.2.2.1.drewN _⟩, HH.out.2.2.2.drewN _⟩
end Go.Proofs.YtloaalapkmbgeaaDoor

namespace Go.Proofs.YtloaalapkmbgeaaDoor
open Go Go.RowKit GlyphMath LexMath

theorem PrtO.putend {w w1 : World} {B C g cap k : Nat} {v v' : Value} {vs : List Value} {F : Nat → Prop} {ps : List Pt} {p : Pt} {u : Value} {o : Obj} {T O : ByteArray} (h : PrtO w B v vs F ps) (hk : ps.length = k) (hv : v'.ownBlock = v.ownBlock) (hw : WordN w C u p.word) (hBC : B ≤ C) (hvC : ∀ g, v.ownBlock = some g → g < C) (hT : txt p.text = .string T) (hO : txt p.op = .string O)
    (hown : w1.ownsRow B 30 5 (.slice (some ⟨g, 0, none⟩) (k + 1) cap) (k + 1) (rowCells ps vs ++ [.int .i64 p.kind, .string T, .string O, u, .bool p.q])) (hgrow : (w.alloc o).grownBy w1 v'.ownBlock) (hat : v'.ownBlock = some g ∨ g = w.heap.size + 1) :
    Prt w1 B (.slice (some ⟨g, 0, none⟩) (k + 1) cap) (ps ++ [p]) ∧ Kept (fun k => B ≤ k) w w1 := by
  subst hk
  rw [hv] at hgrow hat
  refine ⟨h.add hw hBC hvC ?_ hgrow hat, ?_⟩
  · rw [show pcells p u = [.int .i64 p.kind, .string T, .string O, u, .bool p.q] by unfold pcells; rw [hT, hO]]
    exact hown
  · exact Kept.grown (D := fun k => B ≤ k) ((Kept.refl _ w).alloc o) hgrow fun j e => .inl (World.ownsRow.lt h.own j e).1

/-- What brace answers. -/
def BrEnd (w w' : World) (e : Ending) (X : Nat) (s : ByteArray) (q : Bool) (m : Res Pt) : Prop :=
  match m with
  | .ok (p, r) => ∃ u T O, txt p.text = .string T ∧ txt p.op = .string O ∧ e = .returned (.agg #[.int .i64 p.kind, .string T, .string O, u, .bool q]) ∧ WordN w' w.heap.size u p.word ∧ LexAt w' X s r ∧ Kept (fun k => k = X) w w'
  | .error c => (∃ T O a n k, e = .returned (.agg #[.int .i64 2, .string T, .string O, .slice a n k, .bool q])) ∧ LexErr w' X s c ∧ Kept (fun k => k = X) w w'
def RBraceDo (depth : Nat) (br : List Nat → Res Pt) : Prop :=
  ∀ (w : World) (X : Nat) (s : ByteArray) (xs : List Nat), LexAt w X s xs → s.size ≤ 2000 → ∀ q : Bool,
    Calls Tryd.prog 68 #[.pointer (some ⟨X, 0, none⟩), .bool q, .int .i64 (depth : Int)] w fun e w' => BrEnd w w' e X s q (br xs)

/-- Behind a dollar. -/
theorem dollar_step {w : World} {X B : Nat} {s : ByteArray} {v : Value} {r : List Nat} {ps : List Pt} (h : PIn w X s B v (36 :: r) ps) {i : Nat} (hl : Lx w X s (i : Int) 0) (hp : Pos s i (36 :: r)) :
    Pos s (i + 1) r ∧ Lx (w.setCell ⟨X, 1, none⟩ (.int .i64 ((i : Int) + 1))) X s ((i + 1 : Nat) : Int) 0 ∧ Kept (fun k => k = X) w (w.setCell ⟨X, 1, none⟩ (.int .i64 ((i : Int) + 1))) ∧ PIn (w.setCell ⟨X, 1, none⟩ (.int .i64 ((i : Int) + 1))) X s B v r ps := by
  have hp1 := hp.fbn1 (by decide)
  have hl1 : Lx (w.setCell ⟨X, 1, none⟩ (.int .i64 ((i : Int) + 1))) X s ((i + 1 : Nat) : Int) 0 := hl.put1 _
  have hk1 := Kept.setCell (D := fun k => k = X) (Kept.refl _ w) (p := ⟨X, 1, none⟩) (.inl rfl) (.int .i64 ((i : Int) + 1))
  exact ⟨hp1, hl1, hk1, h.step ⟨_, hl1, hp1⟩ hk1⟩

set_option maxHeartbeats 2000000 in
theorem rdollar_lit {depth : Nat} {br : List Nat → Res Pt} {w : World} {X B : Nat} {s : ByteArray} {v : Value} {r : List Nat} {ps : List Pt} (h : PIn w X s B v (36 :: r) ps) (hs : s.size ≤ 2000) (hf : Fits (36 :: r) ps) (q : Bool)
    (h1 : takes [123] r = none) (h2 : takes [40, 40] r = none) (h3 : firstR (next r : Int) = false) (h4 : other (next r) = false) :
    Calls Tryd.prog 41 #[.pointer (some ⟨X, 0, none⟩), v, .bool q, .int .i64 (depth : Int)] w fun e w' => PrtEnd w w' e X s B (dollarM br q (36 :: r) ps) := by
  have hM : dollarM br q (36 :: r) ps = .ok (lit ps [36] true, r) := by
    unfold dollarM
    simp only [List.tail_cons]
    rw [h1, h2]
    simp only [h3, h4, Bool.or_self]
    rfl
  rw [hM]
  obtain ⟨i, hl, hp⟩ := h.lex
  obtain ⟨hp1, hl1, hk1, hin1⟩ := dollar_step h hl hp
  have c1 := hl.c1
  have f1 := hl.fz 1
  have hple := hp1.le
  have hi2 : (i : Int) ≤ 2000 := by omega
  have HAT := Lib.hid (rat_any hl1 0 (by omega))
  rw [Nat.add_zero, hp1.fbn] at HAT
  have hgood := hp1.good
  rw [← firstR_fbn hgood] at h3
  rw [← other_fbn hgood] at h4
  have hcv := conv_u8 _ (fbn_lt hgood)
  have HLIT := Lib.hid (fun (W : World) (hW : Prt W B v ps) (hBW : B ≤ W.heap.size) => rlit_any hW hf hBW [36] (by decide) true)
  have HH := Lib.hid (And.intro hin1 hk1)
  have h123 : fbn r ≠ 123 := fun e => by
    rw [takes_one, if_pos ⟨(fbn_iff hgood (by decide)).1 e, fun e' => by rw [e'] at e; cases e⟩] at h1
    cases h1
  by_cases h40 : fbn r = 40
  · obtain ⟨z, rfl⟩ := eq_of_fbn (by decide) hgood h40
    have hp2 := hp1.fbn1 (by decide)
    have HAT1 := Lib.hid (fun m => rat_any (hl1.drewN m) 1 (by omega))
    rw [hp2.fbn] at HAT1
    have h41 : fbn z ≠ 40 := fun e => by
      obtain ⟨y, rfl⟩ := eq_of_fbn (by decide) hp2.good e
      simp [takes] at h2
    obtain ⟨d, hd⟩ : ∃ d, fbn z = d := ⟨_, rfl⟩
    rw [hd] at HAT1 h41
    have yd : ((d : Int) == 40) = false := rne h41
    have hf40 : firstR 40 = false := by decide
    have ho40 : other 40 = false := by decide
    rw [h40] at HAT
    clear h hs hf h1 h2 h3 h4 hM hl hp hp1 hl1 hk1 hin1 hple hgood hcv h123 h40 hp2 h41 hd
    go_enter Tryd.func41, Tryd.ntmps41
    go_wp2_with fail
    refine HAT.out.mono ?_
    rintro e w1 ⟨rfl, m1, rfl⟩
    go_wp2_with fail
    refine (HAT1.out _).mono ?_
    rintro e w2 ⟨rfl, m2, rfl⟩
    go_wp2_with (first
      | (go_at_call 70; refine (rspecial_any 40 _).mono ?_; rintro e w3 ⟨rfl, rfl⟩; rw [ho40])
      | (go_at_call 62; refine (rfirst_any 40 _).mono ?_; rintro e w3 ⟨rfl, rfl⟩; rw [hf40]))
    have hin := HH.out.1.drewN (m1 + m2)
    refine (HLIT.out _ hin.row hin.hB).mono ?_
    rintro e w4 ⟨v4, rfl, hr4, hk4⟩
    have H4 := Lib.hid (And.intro hin (And.intro hr4 hk4))
    clear hin hr4 hk4
    go_wp2_with fail
    go_ret
    exact ⟨v4, rfl, H4.out.1.lex.keptB H4.out.2.2 H4.out.1.hX, H4.out.2.1, (HH.out.2.drewN _).wideX.on H4.out.2.2.wideP⟩
  · obtain ⟨b, hb⟩ : ∃ b, fbn r = b := ⟨_, rfl⟩
    rw [hb] at HAT h3 h4 hcv h123 h40
    have y40 : ((b : Int) == 40) = false := rne h40
    have y123 : ((b : Int) == 123) = false := rne h123
    clear h hs hf h1 h2 hM hl hp hp1 hl1 hk1 hin1 hple hgood h123 h40 hb
    go_enter Tryd.func41, Tryd.ntmps41
    go_wp2_with fail
    refine HAT.out.mono ?_
    rintro e w1 ⟨rfl, m1, rfl⟩
    go_wp2_with (first
      | (go_at_call 70; refine (rspecial_any b _).mono ?_; rintro e w3 ⟨rfl, rfl⟩; rw [h4])
      | (go_at_call 62; refine (rfirst_any (b : Int) _).mono ?_; rintro e w3 ⟨rfl, rfl⟩; rw [h3]))
    have hin := HH.out.1.drewN m1
    refine (HLIT.out _ hin.row hin.hB).mono ?_
    rintro e w4 ⟨v4, rfl, hr4, hk4⟩
    have H4 := Lib.hid (And.intro hin (And.intro hr4 hk4))
    clear hin hr4 hk4
    go_wp2_with fail
    go_ret
    exact ⟨v4, rfl, H4.out.1.lex.keptB H4.out.2.2 H4.out.1.hX, H4.out.2.1, (HH.out.2.drewN _).wideX.on H4.out.2.2.wideP⟩

theorem wordN_shape {w : World} {B : Nat} {v : Value} {ps : List Pt} (h : WordN w B v ps) : ∃ a k c, v = .slice a k c := by
  obtain ⟨F, h, _⟩ := h
  cases h with
  | row _ _ vs h1 _ _ _ =>
    rcases h1.2 with ⟨hv, h0⟩ | ⟨g, cap, cur, hv, _⟩
    · exact ⟨none, 0, 0, hv⟩
    · exact ⟨_, _, _, hv⟩

set_option maxHeartbeats 2000000 in
theorem rdollar_brace {depth : Nat} {br : List Nat → Res Pt} (hB : RBraceDo depth br) {w : World} {X B : Nat} {s : ByteArray} {v : Value} {z : List Nat} {ps : List Pt} (h : PIn w X s B v (36 :: 123 :: z) ps) (hs : s.size ≤ 2000) (hf : Fits (36 :: 123 :: z) ps) (q : Bool) :
    Calls Tryd.prog 41 #[.pointer (some ⟨X, 0, none⟩), v, .bool q, .int .i64 (depth : Int)] w fun e w' => PrtEnd w w' e X s B (dollarM br q (36 :: 123 :: z) ps) := by
  have hM : dollarM br q (36 :: 123 :: z) ps = match br z with
      | .error e => .error e
      | .ok (p, r') => .ok (ps ++ [{ p with q := q }], r') := by
    unfold dollarM
    simp only [List.tail_cons]
    rw [show takes [123] (123 :: z) = some z by simp [takes]]
    dsimp only
    cases br z <;> rfl
  obtain ⟨D, hd⟩ : ∃ D, br z = D := ⟨_, rfl⟩
  rw [hd] at hM
  rw [hM]
  obtain ⟨i, hl, hp⟩ := h.lex
  obtain ⟨hp1, hl1, hk1, hin1⟩ := dollar_step h hl hp
  have hp2 := hp1.fbn1 (by decide)
  have c1 := hl.c1
  have f1 := hl.fz 1
  have hple := hp2.le
  have hi2 : (i : Int) + 2 ≤ 2000 := by omega
  have HAT := Lib.hid (rat_any hl1 0 (by omega))
  rw [Nat.add_zero, hp1.fbn, show fbn (123 :: z) = 123 from rfl] at HAT
  have HL2 := Lib.hid (show ∀ m, Lx (((w.setCell ⟨X, 1, none⟩ (.int .i64 ((i : Int) + 1))).drewN m).setCell ⟨X, 1, none⟩ (.int .i64 ((i : Int) + 1 + 1))) X s ((i + 1 + 1 : Nat) : Int) 0 from fun m => (hl1.drewN m).put1 _)
  have HK2 := Lib.hid (show ∀ m, Kept (fun k => k = X) w (((w.setCell ⟨X, 1, none⟩ (.int .i64 ((i : Int) + 1))).drewN m).setCell ⟨X, 1, none⟩ (.int .i64 ((i : Int) + 1 + 1))) from fun m => Kept.setCell (D := fun k => k = X) (hk1.drewN m) (.inl rfl) _)
  have g1 := fun m => (hl1.drewN m).c1
  have g2 := fun m => (hl1.drewN m).fz 1
  rw [Int.natCast_add] at g1
  have HP2 := Lib.hid hp2
  have HBR := Lib.hid (fun m => hB _ X s z ⟨_, HL2.out m, hp2⟩ hs q)
  rw [hd] at HBR
  have HIN := Lib.hid h
  obtain ⟨k, hk⟩ : ∃ k, ps.length = k := ⟨_, rfl⟩
  have HK := Lib.hid hk
  have HLE := Lib.hid (show k ≤ 4000 by have := hf.1; omega)
  clear h hs hf hM hl hp hp1 hl1 hk1 hin1 hp2 hple hd hk
  go_enter Tryd.func41, Tryd.ntmps41
  go_wp2_with fail
  refine HAT.out.mono ?_
  rintro e w1 ⟨rfl, m1, rfl⟩
  have c11 := g1 m1
  have f11 := g2 m1
  clear g1 g2
  go_wp2_with fail
  refine (HBR.out m1).mono ?_
  intro e w3 hE
  cases D with
  | error cc =>
    obtain ⟨⟨T, O, a5, n5, k5, rfl⟩, hle, hk3⟩ := hE
    have hrow := HIN.out.row.keptX ((HK2.out m1).on hk3) HIN.out.hX
    have hb3 := Nat.le_trans HIN.out.hB ((HK2.out m1).on hk3).size
    obtain ⟨vs, F, hpo⟩ := hrow
    have HO := Lib.hid (show ∀ o1, (w3.alloc o1).ownsRow B 30 5 v k (rowCells ps vs) from fun o1 => by rw [← HK.out]; exact hpo.own.alloc o1)
    have HZ := Lib.hid (show ∀ o1, B ≤ (w3.alloc o1).heap.size ∧ (w3.alloc o1).heap.size = w3.heap.size + 1 from fun o1 => ⟨by simp; omega, by simp⟩)
    have HPO := Lib.hid hpo
    have H3 := Lib.hid (And.intro hle ((HK2.out m1).on hk3))
    clear hle hk3 hb3 hpo
    go_wp2_with (at_builtin; refine prt_append rfl _ _ rfl B _ k _ rfl (HO.out _) ⟨w3.heap.size, 0, none⟩ _ _ _ _ _ rfl (prt_news _ _) (by intro x hx; simp at hx; rcases hx with rfl | rfl | rfl | rfl | rfl <;> rfl) HLE.out (HZ.out _).1 (w3.heap.size + 1) (HZ.out _).2 ?_; intro g cap w4 hown hg hat _; have H4 := Lib.hid (And.intro hown (And.intro hg hat)); clear hown hg hat)
    go_ret
    have hkk : Kept (fun k => B ≤ k) w3 w4 := Kept.grown (D := fun k => B ≤ k) ((Kept.refl _ w3).alloc _) H4.out.2.1 fun j e => .inl (World.ownsRow.lt HPO.out.own j e).1
    exact ⟨⟨_, _, _, rfl⟩, H3.out.1.kept hkk (fun k hk => by have := HIN.out.hX; omega), H3.out.2.wideX.on hkk.wideP⟩
  | ok a =>
    obtain ⟨p, r'⟩ := a
    obtain ⟨u, T, O, hT, hO, rfl, hwn, hle, hk3⟩ := hE
    obtain ⟨a5, n5, k5, rfl⟩ := wordN_shape hwn
    have hrow2 := HIN.out.row.keptX (HK2.out m1) HIN.out.hX
    have hb2 := Nat.le_trans HIN.out.hB (HK2.out m1).size
    obtain ⟨vs, F, hpo2⟩ := hrow2
    have hpo := hpo2.kept hk3 fun j h1 _ e => by have := HIN.out.hX; omega
    have HO := Lib.hid (show ∀ o1, (w3.alloc o1).ownsRow B 30 5 v k (rowCells ps vs) from fun o1 => by rw [← HK.out]; exact hpo.own.alloc o1)
    have HZ := Lib.hid (show ∀ o1, B ≤ (w3.alloc o1).heap.size ∧ (w3.alloc o1).heap.size = w3.heap.size + 1 from fun o1 => ⟨by have := hk3.size; simp; omega, by simp⟩)
    have HPO := Lib.hid (And.intro hpo2 (And.intro hpo hb2))
    have H3 := Lib.hid (And.intro hle (And.intro ((HK2.out m1).on hk3) (And.intro hT (And.intro hO hwn))))
    clear hle hk3 hpo hpo2 hb2 hT hO hwn
    go_wp2_with (at_builtin; refine prt_append rfl _ _ rfl B _ k _ rfl (HO.out _) ⟨w3.heap.size, 0, none⟩ _ _ _ _ _ rfl (prt_news _ _) (by intro x hx; simp at hx; rcases hx with rfl | rfl | rfl | rfl | rfl <;> rfl) HLE.out (HZ.out _).1 (w3.heap.size + 1) (HZ.out _).2 ?_; intro g cap w4 hown hg hat _; have H4 := Lib.hid (And.intro hown (And.intro hg hat)); clear hown hg hat)
    go_ret
    obtain ⟨k1, k2⟩ := HPO.out.2.1.putend (p := { p with q := q }) HK.out rfl H3.out.2.2.2.2 HPO.out.2.2 (fun g hg => (World.ownsRow.lt HPO.out.1.own g hg).2) H3.out.2.2.1 H3.out.2.2.2.1 H4.out.1 H4.out.2.1 H4.out.2.2
    exact ⟨_, rfl, H3.out.1.keptB k2 HIN.out.hX, k1, H3.out.2.1.wideX.on k2.wideP⟩

set_option maxHeartbeats 2000000 in
theorem rdollar_arith {depth : Nat} {br : List Nat → Res Pt} {w : World} {X B : Nat} {s : ByteArray} {v : Value} {z : List Nat} {ps : List Pt} (h : PIn w X s B v (36 :: 40 :: 40 :: z) ps) (hs : s.size ≤ 2000) (hf : Fits (36 :: 40 :: 40 :: z) ps) (q : Bool) :
    Calls Tryd.prog 41 #[.pointer (some ⟨X, 0, none⟩), v, .bool q, .int .i64 (depth : Int)] w fun e w' => PrtEnd w w' e X s B (dollarM br q (36 :: 40 :: 40 :: z) ps) := by
  have hM : dollarM br q (36 :: 40 :: 40 :: z) ps = match arithM z 0 [] with
      | .error e => .error e
      | .ok (l, r') => .ok (ps ++ [⟨3, enc l, [], [], q⟩], r') := by
    unfold dollarM
    simp only [List.tail_cons]
    rw [show takes [123] (40 :: 40 :: z) = none by simp [takes], show takes [40, 40] (40 :: 40 :: z) = some z by simp [takes]]
    dsimp only
    cases arithM z 0 [] <;> rfl
  obtain ⟨D, hd⟩ : ∃ D, arithM z 0 [] = D := ⟨_, rfl⟩
  rw [hd] at hM
  rw [hM]
  obtain ⟨i, hl, hp⟩ := h.lex
  obtain ⟨hp1, hl1, hk1, hin1⟩ := dollar_step h hl hp
  have hp2 := hp1.fbn1 (by decide)
  have hp3 := hp2.fbn1 (by decide)
  have c1 := hl.c1
  have f1 := hl.fz 1
  have hple := hp3.le
  have hi2 : (i : Int) + 3 ≤ 2000 := by omega
  have HAT := Lib.hid (rat_any hl1 0 (by omega))
  rw [Nat.add_zero, hp1.fbn, show fbn (40 :: 40 :: z) = 40 from rfl] at HAT
  have HAT1 := Lib.hid (fun m => rat_any (hl1.drewN m) 1 (by omega))
  rw [hp2.fbn, show fbn (40 :: z) = 40 from rfl] at HAT1
  have HL2 := Lib.hid (show ∀ m, Lx (((w.setCell ⟨X, 1, none⟩ (.int .i64 ((i : Int) + 1))).drewN m).setCell ⟨X, 1, none⟩ (.int .i64 ((i : Int) + 1 + 2))) X s ((i + 1 + 1 + 1 : Nat) : Int) 0 from fun m => (hl1.drewN m).put1 _)
  have HK2 := Lib.hid (show ∀ m, Kept (fun k => k = X) w (((w.setCell ⟨X, 1, none⟩ (.int .i64 ((i : Int) + 1))).drewN m).setCell ⟨X, 1, none⟩ (.int .i64 ((i : Int) + 1 + 2))) from fun m => Kept.setCell (D := fun k => k = X) (hk1.drewN m) (.inl rfl) _)
  have g1 := fun m => (hl1.drewN m).c1
  have g2 := fun m => (hl1.drewN m).fz 1
  rw [Int.natCast_add] at g1
  have HAR := Lib.hid (fun m => rarith_any ⟨_, HL2.out m, hp3⟩ hs)
  rw [hd] at HAR
  have HIN := Lib.hid h
  obtain ⟨k, hk⟩ : ∃ k, ps.length = k := ⟨_, rfl⟩
  have HK := Lib.hid hk
  have HLE := Lib.hid (show k ≤ 4000 by have := hf.1; omega)
  clear h hs hf hM hl hp hp1 hl1 hk1 hin1 hp2 hp3 hple hd hk
  go_enter Tryd.func41, Tryd.ntmps41
  go_wp2_with fail
  refine HAT.out.mono ?_
  rintro e w1 ⟨rfl, m1, rfl⟩
  go_wp2_with fail
  refine (HAT1.out _).mono ?_
  rintro e w2 ⟨rfl, m2, rfl⟩
  have c11 := g1 (m1 + m2)
  have f11 := g2 (m1 + m2)
  clear g1 g2
  go_wp2_with fail
  refine (HAR.out (m1 + m2)).mono ?_
  intro e w3 hE
  cases D with
  | error cc =>
    obtain ⟨⟨T, rfl⟩, hle, hk3⟩ := hE
    have hrow := HIN.out.row.keptX ((HK2.out (m1 + m2)).on hk3) HIN.out.hX
    have hb3 := Nat.le_trans HIN.out.hB ((HK2.out (m1 + m2)).on hk3).size
    obtain ⟨vs, F, hpo⟩ := hrow
    have HO := Lib.hid (show ∀ o1, (w3.alloc o1).ownsRow B 30 5 v k (rowCells ps vs) from fun o1 => by rw [← HK.out]; exact hpo.own.alloc o1)
    have HZ := Lib.hid (show ∀ o1, B ≤ (w3.alloc o1).heap.size ∧ (w3.alloc o1).heap.size = w3.heap.size + 1 from fun o1 => ⟨by simp; omega, by simp⟩)
    have HPO := Lib.hid hpo
    have H3 := Lib.hid (And.intro hle ((HK2.out (m1 + m2)).on hk3))
    clear hle hk3 hb3 hpo
    go_wp2_with (at_builtin; refine prt_append rfl _ _ rfl B _ k _ rfl (HO.out _) ⟨w3.heap.size, 0, none⟩ _ _ _ _ _ rfl (prt_news _ _) (by intro x hx; simp at hx; rcases hx with rfl | rfl | rfl | rfl | rfl <;> rfl) HLE.out (HZ.out _).1 (w3.heap.size + 1) (HZ.out _).2 ?_; intro g cap w4 hown hg hat _; have H4 := Lib.hid (And.intro hown (And.intro hg hat)); clear hown hg hat)
    go_ret
    have hkk : Kept (fun k => B ≤ k) w3 w4 := Kept.grown (D := fun k => B ≤ k) ((Kept.refl _ w3).alloc _) H4.out.2.1 fun j e => .inl (World.ownsRow.lt HPO.out.own j e).1
    exact ⟨⟨_, _, _, rfl⟩, H3.out.1.kept hkk (fun k hk => by have := HIN.out.hX; omega), H3.out.2.wideX.on hkk.wideP⟩
  | ok a =>
    obtain ⟨l, r'⟩ := a
    obtain ⟨rfl, hle, hk3⟩ := hE
    obtain ⟨T, hT⟩ : ∃ T : ByteArray, txt (enc l) = .string T := ⟨_, rfl⟩
    rw [hT]
    have hrow := HIN.out.row.keptX ((HK2.out (m1 + m2)).on hk3) HIN.out.hX
    have hb3 := Nat.le_trans HIN.out.hB ((HK2.out (m1 + m2)).on hk3).size
    obtain ⟨vs, F, hpo⟩ := hrow
    have HO := Lib.hid (show ∀ o1, (w3.alloc o1).ownsRow B 30 5 v k (rowCells ps vs) from fun o1 => by rw [← HK.out]; exact hpo.own.alloc o1)
    have HZ := Lib.hid (show ∀ o1, B ≤ (w3.alloc o1).heap.size ∧ (w3.alloc o1).heap.size = w3.heap.size + 1 from fun o1 => ⟨by simp; omega, by simp⟩)
    have HPO := Lib.hid (And.intro hpo hb3)
    have H3 := Lib.hid (And.intro hle (And.intro ((HK2.out (m1 + m2)).on hk3) hT))
    clear hle hk3 hpo hb3 hT
    go_wp2_with (at_builtin; refine prt_append rfl _ _ rfl B _ k _ rfl (HO.out _) ⟨w3.heap.size, 0, none⟩ _ _ _ _ _ rfl (prt_news _ _) (by intro x hx; simp at hx; rcases hx with rfl | rfl | rfl | rfl | rfl <;> rfl) HLE.out (HZ.out _).1 (w3.heap.size + 1) (HZ.out _).2 ?_; intro g cap w4 hown hg hat _; have H4 := Lib.hid (And.intro hown (And.intro hg hat)); clear hown hg hat)
    go_ret
    obtain ⟨k1, k2⟩ := HPO.out.1.litend (p := ⟨3, enc l, [], [], q⟩) HPO.out.2 HK.out rfl (WordN.nil _ _) H3.out.2.2 rfl H4.out.1 H4.out.2.1 H4.out.2.2
    exact ⟨_, rfl, H3.out.1.keptB k2 HIN.out.hX, k1, H3.out.2.1.wideX.on k2.wideP⟩

theorem rparam_any {w : World} {X : Nat} {s : ByteArray} {xs : List Nat} (h : LexAt w X s xs) (hs : s.size ≤ 2000) (hf : firstR (next xs : Int) = true ∨ other (next xs) = true) :
    Calls Tryd.prog 71 #[.pointer (some ⟨X, 0, none⟩)] w fun e w' => StrEnd w w' e X s (parameterM xs) := by
  cases ho : other (next xs) with
  | true => exact rparam_other h hs ho
  | false => exact rparam_name h hs (hf.resolve_right (by rw [ho]; decide)) ho

set_option maxHeartbeats 2000000 in
theorem rdollar_param {depth : Nat} {br : List Nat → Res Pt} {w : World} {X B : Nat} {s : ByteArray} {v : Value} {r : List Nat} {ps : List Pt} (h : PIn w X s B v (36 :: r) ps) (hs : s.size ≤ 2000) (hf : Fits (36 :: r) ps) (q : Bool)
    (hfo : firstR (next r : Int) = true ∨ other (next r) = true) :
    Calls Tryd.prog 41 #[.pointer (some ⟨X, 0, none⟩), v, .bool q, .int .i64 (depth : Int)] w fun e w' => PrtEnd w w' e X s B (dollarM br q (36 :: r) ps) := by
  have n123 : next r ≠ 123 := fun e => by rw [e] at hfo; revert hfo; decide
  have n40 : next r ≠ 40 := fun e => by rw [e] at hfo; revert hfo; decide
  have hM : dollarM br q (36 :: r) ps = match parameterM r with
      | .error e => .error e
      | .ok (l, r') => .ok (ps ++ [⟨2, enc l, [], [], q⟩], r') := by
    unfold dollarM
    simp only [List.tail_cons]
    rw [show takes [123] r = none by rw [takes_one, if_neg fun e => n123 e.1], show takes [40, 40] r = none by
      cases r with
      | nil => rfl
      | cons c z => rw [takes, if_neg fun e => n40 e.symm]]
    dsimp only
    have hcond : (firstR (next r : Int) || other (next r)) = true := by rcases hfo with e | e <;> rw [e] <;> simp
    refine (if_pos hcond).trans ?_
    cases parameterM r <;> rfl
  obtain ⟨D, hd⟩ : ∃ D, parameterM r = D := ⟨_, rfl⟩
  rw [hd] at hM
  rw [hM]
  obtain ⟨i, hl, hp⟩ := h.lex
  obtain ⟨hp1, hl1, hk1, hin1⟩ := dollar_step h hl hp
  have c1 := hl.c1
  have f1 := hl.fz 1
  have hple := hp1.le
  have hi2 : (i : Int) ≤ 2000 := by omega
  have HAT := Lib.hid (rat_any hl1 0 (by omega))
  rw [Nat.add_zero, hp1.fbn] at HAT
  have hgood := hp1.good
  have HPA := Lib.hid (fun m => rparam_any (show LexAt ((w.setCell ⟨X, 1, none⟩ (.int .i64 ((i : Int) + 1))).drewN m) X s r from ⟨_, hl1.drewN m, hp1⟩) hs hfo)
  rw [hd] at HPA
  have HK2 := Lib.hid (show ∀ m, Kept (fun k => k = X) w ((w.setCell ⟨X, 1, none⟩ (.int .i64 ((i : Int) + 1))).drewN m) from fun m => hk1.drewN m)
  rw [← firstR_fbn hgood, ← other_fbn hgood] at hfo
  have hcv := conv_u8 _ (fbn_lt hgood)
  have m123 : fbn r ≠ 123 := fun e => n123 ((fbn_iff hgood (by decide)).1 e)
  have m40 : fbn r ≠ 40 := fun e => n40 ((fbn_iff hgood (by decide)).1 e)
  obtain ⟨b, hb⟩ : ∃ b, fbn r = b := ⟨_, rfl⟩
  rw [hb] at HAT hfo hcv m123 m40
  have y123 : ((b : Int) == 123) = false := rne m123
  have y40 : ((b : Int) == 40) = false := rne m40
  have HIN := Lib.hid h
  obtain ⟨k, hk⟩ : ∃ k, ps.length = k := ⟨_, rfl⟩
  have HK := Lib.hid hk
  have HLE := Lib.hid (show k ≤ 4000 by have := hf.1; omega)
  clear h hs hf hM hl hp hp1 hl1 hk1 hin1 hple hd hk hgood n123 n40 m123 m40 hb
  obtain ⟨oo, hoo⟩ : ∃ oo, other b = oo := ⟨_, rfl⟩
  rw [hoo] at hfo
  have hff : oo = true ∨ (oo = false ∧ firstR (b : Int) = true) := by
    cases oo
    · right; exact ⟨rfl, by simpa using hfo⟩
    · left; rfl
  clear hfo
  go_enter Tryd.func41, Tryd.ntmps41
  go_wp2_with fail
  refine HAT.out.mono ?_
  rintro e w1 ⟨rfl, m1, rfl⟩
  rcases hff with rfl | ⟨rfl, hfi⟩
  · go_wp2_with ((go_at_call 70; refine (rspecial_any b _).mono ?_; rintro e w3 ⟨rfl, rfl⟩; rw [hoo]))
    refine (HPA.out m1).mono ?_
    intro e w3 hE
    cases D with
    | error cc =>
      obtain ⟨⟨T, rfl⟩, hle, hk3⟩ := hE
      have hrow := HIN.out.row.keptX ((HK2.out m1).on hk3) HIN.out.hX
      have hb3 := Nat.le_trans HIN.out.hB ((HK2.out m1).on hk3).size
      obtain ⟨vs, F, hpo⟩ := hrow
      have HO := Lib.hid (show ∀ o1, (w3.alloc o1).ownsRow B 30 5 v k (rowCells ps vs) from fun o1 => by rw [← HK.out]; exact hpo.own.alloc o1)
      have HZ := Lib.hid (show ∀ o1, B ≤ (w3.alloc o1).heap.size ∧ (w3.alloc o1).heap.size = w3.heap.size + 1 from fun o1 => ⟨by simp; omega, by simp⟩)
      have HPO := Lib.hid hpo
      have H3 := Lib.hid (And.intro hle ((HK2.out m1).on hk3))
      clear hle hk3 hb3 hpo
      go_wp2_with (at_builtin; refine prt_append rfl _ _ rfl B _ k _ rfl (HO.out _) ⟨w3.heap.size, 0, none⟩ _ _ _ _ _ rfl (prt_news _ _) (by intro x hx; simp at hx; rcases hx with rfl | rfl | rfl | rfl | rfl <;> rfl) HLE.out (HZ.out _).1 (w3.heap.size + 1) (HZ.out _).2 ?_; intro g cap w4 hown hg hat _; have H4 := Lib.hid (And.intro hown (And.intro hg hat)); clear hown hg hat)
      go_ret
      have hkk : Kept (fun k => B ≤ k) w3 w4 := Kept.grown (D := fun k => B ≤ k) ((Kept.refl _ w3).alloc _) H4.out.2.1 fun j e => .inl (World.ownsRow.lt HPO.out.own j e).1
      exact ⟨⟨_, _, _, rfl⟩, H3.out.1.kept hkk (fun k hk => by have := HIN.out.hX; omega), H3.out.2.wideX.on hkk.wideP⟩
    | ok a =>
      obtain ⟨l, r'⟩ := a
      obtain ⟨rfl, hle, hk3⟩ := hE
      obtain ⟨T, hT⟩ : ∃ T : ByteArray, txt (enc l) = .string T := ⟨_, rfl⟩
      rw [hT]
      have hrow := HIN.out.row.keptX ((HK2.out m1).on hk3) HIN.out.hX
      have hb3 := Nat.le_trans HIN.out.hB ((HK2.out m1).on hk3).size
      obtain ⟨vs, F, hpo⟩ := hrow
      have HO := Lib.hid (show ∀ o1, (w3.alloc o1).ownsRow B 30 5 v k (rowCells ps vs) from fun o1 => by rw [← HK.out]; exact hpo.own.alloc o1)
      have HZ := Lib.hid (show ∀ o1, B ≤ (w3.alloc o1).heap.size ∧ (w3.alloc o1).heap.size = w3.heap.size + 1 from fun o1 => ⟨by simp; omega, by simp⟩)
      have HPO := Lib.hid (And.intro hpo hb3)
      have H3 := Lib.hid (And.intro hle (And.intro ((HK2.out m1).on hk3) hT))
      clear hle hk3 hpo hb3 hT
      go_wp2_with (at_builtin; refine prt_append rfl _ _ rfl B _ k _ rfl (HO.out _) ⟨w3.heap.size, 0, none⟩ _ _ _ _ _ rfl (prt_news _ _) (by intro x hx; simp at hx; rcases hx with rfl | rfl | rfl | rfl | rfl <;> rfl) HLE.out (HZ.out _).1 (w3.heap.size + 1) (HZ.out _).2 ?_; intro g cap w4 hown hg hat _; have H4 := Lib.hid (And.intro hown (And.intro hg hat)); clear hown hg hat)
      go_ret
      obtain ⟨k1, k2⟩ := HPO.out.1.litend (p := ⟨2, enc l, [], [], q⟩) HPO.out.2 HK.out rfl (WordN.nil _ _) H3.out.2.2 rfl H4.out.1 H4.out.2.1 H4.out.2.2
      exact ⟨_, rfl, H3.out.1.keptB k2 HIN.out.hX, k1, H3.out.2.1.wideX.on k2.wideP⟩

  · go_wp2_with (first
      | (go_at_call 70; refine (rspecial_any b _).mono ?_; rintro e w3 ⟨rfl, rfl⟩; rw [hoo])
      | (go_at_call 62; refine (rfirst_any (b : Int) _).mono ?_; rintro e w3 ⟨rfl, rfl⟩; rw [hfi]))
    refine (HPA.out m1).mono ?_
    intro e w3 hE
    cases D with
    | error cc =>
      obtain ⟨⟨T, rfl⟩, hle, hk3⟩ := hE
      have hrow := HIN.out.row.keptX ((HK2.out m1).on hk3) HIN.out.hX
      have hb3 := Nat.le_trans HIN.out.hB ((HK2.out m1).on hk3).size
      obtain ⟨vs, F, hpo⟩ := hrow
      have HO := Lib.hid (show ∀ o1, (w3.alloc o1).ownsRow B 30 5 v k (rowCells ps vs) from fun o1 => by rw [← HK.out]; exact hpo.own.alloc o1)
      have HZ := Lib.hid (show ∀ o1, B ≤ (w3.alloc o1).heap.size ∧ (w3.alloc o1).heap.size = w3.heap.size + 1 from fun o1 => ⟨by simp; omega, by simp⟩)
      have HPO := Lib.hid hpo
      have H3 := Lib.hid (And.intro hle ((HK2.out m1).on hk3))
      clear hle hk3 hb3 hpo
      go_wp2_with (at_builtin; refine prt_append rfl _ _ rfl B _ k _ rfl (HO.out _) ⟨w3.heap.size, 0, none⟩ _ _ _ _ _ rfl (prt_news _ _) (by intro x hx; simp at hx; rcases hx with rfl | rfl | rfl | rfl | rfl <;> rfl) HLE.out (HZ.out _).1 (w3.heap.size + 1) (HZ.out _).2 ?_; intro g cap w4 hown hg hat _; have H4 := Lib.hid (And.intro hown (And.intro hg hat)); clear hown hg hat)
      go_ret
      have hkk : Kept (fun k => B ≤ k) w3 w4 := Kept.grown (D := fun k => B ≤ k) ((Kept.refl _ w3).alloc _) H4.out.2.1 fun j e => .inl (World.ownsRow.lt HPO.out.own j e).1
      exact ⟨⟨_, _, _, rfl⟩, H3.out.1.kept hkk (fun k hk => by have := HIN.out.hX; omega), H3.out.2.wideX.on hkk.wideP⟩
    | ok a =>
      obtain ⟨l, r'⟩ := a
      obtain ⟨rfl, hle, hk3⟩ := hE
      obtain ⟨T, hT⟩ : ∃ T : ByteArray, txt (enc l) = .string T := ⟨_, rfl⟩
      rw [hT]
      have hrow := HIN.out.row.keptX ((HK2.out m1).on hk3) HIN.out.hX
      have hb3 := Nat.le_trans HIN.out.hB ((HK2.out m1).on hk3).size
      obtain ⟨vs, F, hpo⟩ := hrow
      have HO := Lib.hid (show ∀ o1, (w3.alloc o1).ownsRow B 30 5 v k (rowCells ps vs) from fun o1 => by rw [← HK.out]; exact hpo.own.alloc o1)
      have HZ := Lib.hid (show ∀ o1, B ≤ (w3.alloc o1).heap.size ∧ (w3.alloc o1).heap.size = w3.heap.size + 1 from fun o1 => ⟨by simp; omega, by simp⟩)
      have HPO := Lib.hid (And.intro hpo hb3)
      have H3 := Lib.hid (And.intro hle (And.intro ((HK2.out m1).on hk3) hT))
      clear hle hk3 hpo hb3 hT
      go_wp2_with (at_builtin; refine prt_append rfl _ _ rfl B _ k _ rfl (HO.out _) ⟨w3.heap.size, 0, none⟩ _ _ _ _ _ rfl (prt_news _ _) (by intro x hx; simp at hx; rcases hx with rfl | rfl | rfl | rfl | rfl <;> rfl) HLE.out (HZ.out _).1 (w3.heap.size + 1) (HZ.out _).2 ?_; intro g cap w4 hown hg hat _; have H4 := Lib.hid (And.intro hown (And.intro hg hat)); clear hown hg hat)
      go_ret
      obtain ⟨k1, k2⟩ := HPO.out.1.litend (p := ⟨2, enc l, [], [], q⟩) HPO.out.2 HK.out rfl (WordN.nil _ _) H3.out.2.2 rfl H4.out.1 H4.out.2.1 H4.out.2.2
      exact ⟨_, rfl, H3.out.1.keptB k2 HIN.out.hX, k1, H3.out.2.1.wideX.on k2.wideP⟩

theorem rdollar_do {depth : Nat} {br : List Nat → Res Pt} (hB : RBraceDo depth br) : RDollarDo depth br := by
  intro w X s B v r ps h hs hf q
  cases h1 : takes [123] r with
  | some z =>
    have := takes_length _ _ _ h1
    subst this
    exact rdollar_brace hB h hs hf q
  | none =>
    cases h2 : takes [40, 40] r with
    | some z =>
      have := takes_length _ _ _ h2
      subst this
      exact rdollar_arith h hs hf q
    | none =>
      cases h3 : firstR (next r : Int) with
      | true => exact rdollar_param h hs hf q (.inl h3)
      | false =>
        cases h4 : other (next r) with
        | true => exact rdollar_param h hs hf q (.inr h4)
        | false => exact rdollar_lit h hs hf q h1 h2 h3 h4
end Go.Proofs.YtloaalapkmbgeaaDoor

namespace Go.Proofs.YtloaalapkmbgeaaDoor
open Go Go.RowKit GlyphMath LexMath

/-- What parts answers. -/
def PtsEnd (w w' : World) (e : Ending) (X : Nat) (s : ByteArray) (m : Res (List Pt)) : Prop :=
  match m with
  | .ok (ps, r) => ∃ v, e = .returned v ∧ WordN w' w.heap.size v ps ∧ LexAt w' X s r ∧ Kept (fun k => k = X) w w'
  | .error c => (∃ a n k, e = .returned (.slice a n k)) ∧ LexErr w' X s c ∧ Kept (fun k => k = X) w w'
def RPartsDo (d : Bool) (depth : Nat) (f : List Nat → Res (List Pt)) : Prop :=
  ∀ (w : World) (X : Nat) (s : ByteArray) (xs : List Nat), LexAt w X s xs → s.size ≤ 2000 →
    Calls Tryd.prog 22 #[.pointer (some ⟨X, 0, none⟩), .bool d, .int .i64 (depth : Int)] w fun e w' => PtsEnd w w' e X s (f xs)

/-- What parts is doing. -/
structure PtOk (w wr : World) (X : Nat) (s : ByteArray) (B : Nat) (br : List Nat → Res Pt) (d : Bool) (M : Res (List Pt)) (f : Nat) (ys : List Nat) (v : Value) (qs : List Pt) : Prop where
  inn : PIn wr X s B v ys qs
  fits : Fits ys qs
  kept : Kept (fun k => k = X ∨ B ≤ k) w wr
  fuel : ys.length < f
  said : partsL br d f ys qs = M
def PtR (w : World) (X : Nat) (s : ByteArray) (B : Nat) (br : List Nat → Res Pt) (d : Bool) (M : Res (List Pt)) (v : Value) (wr : World) : Prop :=
  (∃ f ys qs, PtOk w wr X s B br d M f ys v qs) ∨ (∃ a n k, v = .slice a n k ∧ DbErr w wr X s B M)
theorem PtOk.go {w wr w' : World} {X B f : Nat} {s : ByteArray} {br : List Nat → Res Pt} {d : Bool} {M : Res (List Pt)} {ys ys' : List Nat} {v v' : Value} {qs qs' : List Pt} (h : PtOk w wr X s B br d M (f + 1) ys v qs) (hl : Less ys ys') (hm : partsL br d f ys' qs' = M) (hi : PIn w' X s B v' ys' qs') (hf : Fits ys' qs') (hk : Kept (fun k => k = X ∨ B ≤ k) wr w') :
    PtR w X s B br d M v' w' ∧ toGo w' X s.size < toGo wr X s.size := by
  refine ⟨.inl ⟨f, ys', qs', hi, hf, h.kept.on hk, by have := h.fuel; have := hl.2; omega, hm⟩, ?_⟩
  rw [hi.lex.toGo, h.inn.lex.toGo]
  have := enc_less hl
  omega
theorem PtOk.stop {w wr w' : World} {X B f c : Nat} {s : ByteArray} {br : List Nat → Res Pt} {d : Bool} {M : Res (List Pt)} {ys : List Nat} {v : Value} {qs : List Pt} {a : Option Addr} {n k : Nat} (h : PtOk w wr X s B br d M f ys v qs) (hm : M = .error c) (he : LexErr w' X s c) (hk : Kept (fun k => k = X ∨ B ≤ k) wr w') :
    PtR w X s B br d M (.slice a n k) w' ∧ toGo w' X s.size < toGo wr X s.size := by
  refine ⟨.inr ⟨_, _, _, rfl, c, hm, he, h.kept.on hk⟩, ?_⟩
  rw [he.toGo, h.inn.lex.toGo]
  omega
theorem PtOk.done {w wr w' : World} {X f : Nat} {s : ByteArray} {br : List Nat → Res Pt} {d : Bool} {M : Res (List Pt)} {ys : List Nat} {v : Value} {qs : List Pt} (h : PtOk w wr X s w.heap.size br d M f ys v qs) (hm : M = .ok (qs, ys)) (hk : Kept (fun _ => False) wr w') : PtsEnd w w' (.returned v) X s M := by
  rw [hm]
  refine ⟨v, rfl, (h.inn.row.kept hk fun _ _ _ h => h).word, h.inn.lex.kept hk (fun _ _ h => h), (h.kept.on (hk.mono fun _ _ h => h.elim)).mono fun k hk h => h.elim id fun h => by omega⟩

theorem part_at39 {br : List Nat → Res Pt} {d : Bool} {z : List Nat} {qs : List Pt} : partM br d (39 :: z) qs = singleM (39 :: z) qs := by
  unfold partM
  rw [if_neg (show ¬ next (39 :: z) = 92 from (by decide : ¬ (39 : Nat) = 92)), if_pos (show next (39 :: z) = 39 from rfl)]
theorem part_at34 {br : List Nat → Res Pt} {d : Bool} {z : List Nat} {qs : List Pt} : partM br d (34 :: z) qs = doubleM br (34 :: z) qs := by
  unfold partM
  rw [if_neg (show ¬ next (34 :: z) = 92 from (by decide : ¬ (34 : Nat) = 92)), if_neg (show ¬ next (34 :: z) = 39 from (by decide : ¬ (34 : Nat) = 39)), if_pos (show next (34 :: z) = 34 from rfl)]
theorem part_at36 {br : List Nat → Res Pt} {d : Bool} {z : List Nat} {qs : List Pt} : partM br d (36 :: z) qs = dollarM br false (36 :: z) qs := by
  unfold partM
  rw [if_neg (show ¬ next (36 :: z) = 92 from (by decide : ¬ (36 : Nat) = 92)), if_neg (show ¬ next (36 :: z) = 39 from (by decide : ¬ (36 : Nat) = 39)), if_neg (show ¬ next (36 :: z) = 34 from (by decide : ¬ (36 : Nat) = 34)), if_pos (show next (36 :: z) = 36 from rfl)]
theorem part_at92 {br : List Nat → Res Pt} {d : Bool} {z : List Nat} {qs : List Pt} : partM br d (92 :: z) qs = escapedM (92 :: z) qs := by
  unfold partM
  rw [if_pos (show next (92 :: z) = 92 from rfl)]
theorem ends_high {n : Nat} (h : 128 ≤ n) (d : Bool) : ends n d = false := by
  unfold ends blankR; cases d <;> simp <;> omega
theorem begins_high {n : Nat} (h : 128 ≤ n) : begins n = false := by
  unfold begins acts; simp; omega
theorem ends_fbn {xs : List Nat} (h : ∀ x ∈ xs, GoodL x) (d : Bool) : ends (fbn xs) d = ends (next xs) d := by
  rcases fbn_low h with e | ⟨e1, e2⟩
  · rw [e]
  · rw [ends_high (by omega), ends_high e2]
theorem begins_fbn {xs : List Nat} (h : ∀ x ∈ xs, GoodL x) : begins (fbn xs) = begins (next xs) := by
  rcases fbn_low h with e | ⟨e1, e2⟩
  · rw [e]
  · rw [begins_high (by omega), begins_high e2]

set_option maxHeartbeats 4000000 in
theorem rparts_any {d : Bool} {depth : Nat} {br : List Nat → Res Pt} (hb : BraceOk br) (hD : RDollarDo depth br) : RPartsDo d depth (fun xs => partsL br d (xs.length + 1) xs []) := by
  intro w X s xs h hs
  obtain ⟨M, hM⟩ : ∃ M, partsL br d (xs.length + 1) xs [] = M := ⟨_, rfl⟩
  show Calls _ _ _ _ fun e w' => PtsEnd w w' e X s (partsL br d (xs.length + 1) xs [])
  rw [hM]
  have hx : xs.length ≤ 4000 := by
    obtain ⟨i, -, hp⟩ := h
    have h1 := hp.len
    have h2 := (enc_length xs).1
    omega
  have HST := Lib.hid (show PtR w X s w.heap.size br d M (.slice none 0 0) w from .inl ⟨_, xs, [], ⟨h, Prt.nil _ _, h.lt, Nat.le_refl _⟩, Fits.nil _ hx, Kept.refl _ _, Nat.lt_succ_self _, hM⟩)
  have HB := Lib.hid hb
  have HD := Lib.hid hD
  have HSZ := Lib.hid hs
  clear h hs hM hb hD hx
  go_enter Tryd.func22, Tryd.ntmps22
  go_wp2_with fail
  go_loopw [7] (fun v wr => PtR w X s w.heap.size br d M v wr) (fun _ wr => toGo wr X s.size)
  case atStart => exact HST.out
  case round =>
    rcases hrel with hR | hR
    · obtain ⟨f, ys, qs, hR⟩ := hR
      obtain ⟨f, rfl⟩ : ∃ g, f = g + 1 := ⟨f - 1, by have := hR.fuel; omega⟩
      have HR := Lib.hid hR
      obtain ⟨j, hl, hp⟩ := hR.inn.lex
      have hsz := HSZ.out
      have hple := hp.le
      have HAT := Lib.hid (rat_any hl 0 (by omega))
      rw [Nat.add_zero, hp.fbn] at HAT
      have c1 := hl.c1
      have c2 := hl.c2
      have f1 := hl.fz 1
      have hj2 : (j : Int) ≤ 2000 := by omega
      have hm := hR.said
      have HIN := Lib.hid hR.inn
      have hen := ends_fbn hp.good d
      have hbe := begins_fbn hp.good
      obtain ⟨b, hb⟩ : ∃ b, fbn ys = b := ⟨_, rfl⟩
      rw [hb] at HAT hen hbe
      by_cases h0 : b = 0
      · subst h0
        have hy0 : ys = [] := (next_zero hp.good).1 ((fbn_iff hp.good (k := 0) (by decide)).1 hb)
        subst hy0
        have HM := Lib.hid (show M = .ok (qs, []) from by rw [← hm, partsL, if_pos (.inl rfl)])
        clear hR hl hp hsz hple hb hm hen hbe
        go_wp2_with fail
        refine HAT.out.mono ?_
        rintro e w1 ⟨rfl, m1, rfl⟩
        go_wp2_with fail
        go_ret
        exact HR.out.done HM.out ((Kept.refl _ wr).drewN _)
      · have y0 : ((b : Int) == 0) = false := rne h0
        have hn0 : next ys ≠ 0 := fun e => h0 (by rw [← hb]; exact (fbn_iff hp.good (by decide)).2 e)
        cases hE : ends (next ys) d with
        | true =>
          have HM := Lib.hid (show M = .ok (qs, ys) from by rw [← hm, partsL, if_pos (.inr hE)])
          rw [hE] at hen
          cases d with
          | true =>
            have h125 : b = 125 := by simpa [ends] using hen
            subst h125
            clear hR hl hp hsz hple hb hm hen hbe h0 hn0 hE
            go_wp2_with fail
            refine HAT.out.mono ?_
            rintro e w1 ⟨rfl, m1, rfl⟩
            go_wp2_with fail
            go_ret
            exact HR.out.done HM.out ((Kept.refl _ wr).drewN _)
          | false =>
            have hq : b ≠ 39 ∧ b ≠ 34 ∧ b ≠ 36 ∧ b ≠ 92 := by
              refine ⟨?_, ?_, ?_, ?_⟩ <;> (intro e; rw [e] at hen; revert hen; decide)
            have y1 : ((b : Int) == 39) = false := rne hq.1
            have y2 : ((b : Int) == 34) = false := rne hq.2.1
            have y3 : ((b : Int) == 36) = false := rne hq.2.2.1
            have y4 : ((b : Int) == 92) = false := rne hq.2.2.2
            have hme : metaN b = true := by unfold metaN; rw [hen]; rfl
            clear hR hl hp hsz hple hb hm hen hbe h0 hn0 hE hq
            go_wp2_with fail
            refine HAT.out.mono ?_
            rintro e w1 ⟨rfl, m1, rfl⟩
            go_wp2_with ((go_at_call 44; refine (rmeta_any b _).mono ?_; rintro e w3 ⟨rfl, rfl⟩; rw [hme]))
            go_ret
            exact HR.out.done HM.out ((Kept.refl _ wr).drewN _)
        | false =>
          have HM0 := Lib.hid hm
          rw [partsL, if_neg (by rintro (e | e); exact hn0 e; rw [hE] at e; cases e)] at hm
          have HNE := Lib.hid (And.intro hn0 hE)
          rw [hE] at hen
          have y125 : d = true → ((b : Int) == 125) = false := fun e => by
            refine rne fun e2 => ?_
            rw [e, e2] at hen
            revert hen; decide
          by_cases h39 : b = 39
          · subst h39
            obtain ⟨z, rfl⟩ := eq_of_fbn (by decide) hp.good hb
            rw [part_at39] at hm
            have HDD := Lib.hid (fun m => rsingle_any (HIN.out.drewN m) hsz HR.out.fits)
            obtain ⟨D, hd⟩ : ∃ D, singleM (39 :: z) qs = D := ⟨_, rfl⟩
            rw [hd] at HDD hm
            have HDE := Lib.hid hd
            have HMM := Lib.hid hm
            clear hR hl hp hsz hple hb hm hd hen hbe h0 hn0 hE
            cases d
            all_goals
              first | (have z125 := y125 rfl; clear y125) | clear y125
              go_wp2_with fail
              refine HAT.out.mono ?_
              rintro e w1 ⟨rfl, m1, rfl⟩
              go_wp2_with fail
              refine (HDD.out m1).mono ?_
              intro e w3 hE
              cases D with
              | error cc =>
                obtain ⟨⟨a3, n3, k3, rfl⟩, hle, hk3⟩ := hE
                have H3 := Lib.hid (And.intro hle hk3)
                clear hle hk3
                go_wp2_with fail
                exact HR.out.stop HMM.out.symm H3.out.1 ((Kept.refl _ wr).drewN _ |>.on H3.out.2)
              | ok a =>
                obtain ⟨qs', ys'⟩ := a
                obtain ⟨v3, rfl, hle, hr3, hk3⟩ := hE
                have H3 := Lib.hid (And.intro hle (And.intro hr3 hk3))
                clear hle hr3 hk3
                go_wp2_with fail
                obtain ⟨l1, l2⟩ := part_less HB.out (part_at39.trans HDE.out) HNE.out.1 HNE.out.2
                exact HR.out.go l1 HMM.out ⟨H3.out.1, H3.out.2.1, HIN.out.hX, Nat.le_trans HIN.out.hB H3.out.2.2.size⟩ (l2 HR.out.fits) ((Kept.refl _ wr).drewN _ |>.on H3.out.2.2)
          have y39 : ((b : Int) == 39) = false := rne h39
          by_cases h34 : b = 34
          · subst h34
            obtain ⟨z, rfl⟩ := eq_of_fbn (by decide) hp.good hb
            rw [part_at34] at hm
            have HDD := Lib.hid (fun m => rdouble_any HB.out HD.out (HIN.out.drewN m) hsz HR.out.fits)
            obtain ⟨D, hd⟩ : ∃ D, doubleM br (34 :: z) qs = D := ⟨_, rfl⟩
            rw [hd] at HDD hm
            have HDE := Lib.hid hd
            have HMM := Lib.hid hm
            clear hR hl hp hsz hple hb hm hd hen hbe h0 hn0 hE
            cases d
            all_goals
              first | (have z125 := y125 rfl; clear y125) | clear y125
              go_wp2_with fail
              refine HAT.out.mono ?_
              rintro e w1 ⟨rfl, m1, rfl⟩
              go_wp2_with fail
              refine (HDD.out m1).mono ?_
              intro e w3 hE
              cases D with
              | error cc =>
                obtain ⟨⟨a3, n3, k3, rfl⟩, hle, hk3⟩ := hE
                have H3 := Lib.hid (And.intro hle hk3)
                clear hle hk3
                go_wp2_with fail
                exact HR.out.stop HMM.out.symm H3.out.1 ((Kept.refl _ wr).drewN _ |>.on H3.out.2)
              | ok a =>
                obtain ⟨qs', ys'⟩ := a
                obtain ⟨v3, rfl, hle, hr3, hk3⟩ := hE
                have H3 := Lib.hid (And.intro hle (And.intro hr3 hk3))
                clear hle hr3 hk3
                go_wp2_with fail
                obtain ⟨l1, l2⟩ := part_less HB.out (part_at34.trans HDE.out) HNE.out.1 HNE.out.2
                exact HR.out.go l1 HMM.out ⟨H3.out.1, H3.out.2.1, HIN.out.hX, Nat.le_trans HIN.out.hB H3.out.2.2.size⟩ (l2 HR.out.fits) ((Kept.refl _ wr).drewN _ |>.on H3.out.2.2)
          have y34 : ((b : Int) == 34) = false := rne h34
          by_cases h36 : b = 36
          · subst h36
            obtain ⟨z, rfl⟩ := eq_of_fbn (by decide) hp.good hb
            rw [part_at36] at hm
            have HDD := Lib.hid (fun m => HD.out (wr.drewN m) X s w.heap.size u7 z qs (HIN.out.drewN m) hsz HR.out.fits false)
            obtain ⟨D, hd⟩ : ∃ D, dollarM br false (36 :: z) qs = D := ⟨_, rfl⟩
            rw [hd] at HDD hm
            have HDE := Lib.hid hd
            have HMM := Lib.hid hm
            clear hR hl hp hsz hple hb hm hd hen hbe h0 hn0 hE
            cases d
            all_goals
              first | (have z125 := y125 rfl; clear y125) | clear y125
              go_wp2_with fail
              refine HAT.out.mono ?_
              rintro e w1 ⟨rfl, m1, rfl⟩
              go_wp2_with fail
              refine (HDD.out m1).mono ?_
              intro e w3 hE
              cases D with
              | error cc =>
                obtain ⟨⟨a3, n3, k3, rfl⟩, hle, hk3⟩ := hE
                have H3 := Lib.hid (And.intro hle hk3)
                clear hle hk3
                go_wp2_with fail
                exact HR.out.stop HMM.out.symm H3.out.1 ((Kept.refl _ wr).drewN _ |>.on H3.out.2)
              | ok a =>
                obtain ⟨qs', ys'⟩ := a
                obtain ⟨v3, rfl, hle, hr3, hk3⟩ := hE
                have H3 := Lib.hid (And.intro hle (And.intro hr3 hk3))
                clear hle hr3 hk3
                go_wp2_with fail
                obtain ⟨l1, l2⟩ := part_less HB.out (part_at36.trans HDE.out) HNE.out.1 HNE.out.2
                exact HR.out.go l1 HMM.out ⟨H3.out.1, H3.out.2.1, HIN.out.hX, Nat.le_trans HIN.out.hB H3.out.2.2.size⟩ (l2 HR.out.fits) ((Kept.refl _ wr).drewN _ |>.on H3.out.2.2)
          have y36 : ((b : Int) == 36) = false := rne h36
          by_cases h92 : b = 92
          · subst h92
            obtain ⟨z, rfl⟩ := eq_of_fbn (by decide) hp.good hb
            rw [part_at92] at hm
            have hp2 := hp.fbn1 (by decide)
            have HL2 := Lib.hid (show ∀ m, Lx ((wr.drewN m).setCell ⟨X, 1, none⟩ (.int .i64 ((j : Int) + 1))) X s ((j + 1 : Nat) : Int) 0 from fun m => (hl.drewN m).put1 _)
            have HK2 := Lib.hid (show ∀ m, Kept (fun k => k = X) wr ((wr.drewN m).setCell ⟨X, 1, none⟩ (.int .i64 ((j : Int) + 1))) from fun m => Kept.setCell (D := fun k => k = X) ((Kept.refl _ wr).drewN m) (.inl rfl) _)
            cases z with
            | nil =>
              have HM := Lib.hid (show M = .error 2 from hm.symm)
              have hend : s.size ≤ j + 1 := by have := hp2.len; simp [enc] at this; omega
              have HLE := Lib.hid (fun m => rletter_end (HL2.out m) hend)
              clear hR hl hp hp2 hsz hple hb hm hen hbe h0 hn0 hE hend
              cases d
              all_goals
                first | (have z125 := y125 rfl; clear y125) | clear y125
                go_wp2_with fail
                refine HAT.out.mono ?_
                rintro e w1 ⟨rfl, m1, rfl⟩
                go_wp2_with fail
                refine (HLE.out m1).mono ?_
                rintro e w3 ⟨rfl, hl3, hk3⟩
                have H3 := Lib.hid (And.intro hl3 hk3)
                clear hl3 hk3
                go_wp2_with fail
                have hrow := HIN.out.row.keptX ((HK2.out m1).on H3.out.2) HIN.out.hX
                refine (rlit_any (xs := [92]) hrow HR.out.fits (Nat.le_trans HIN.out.hB ((HK2.out m1).on H3.out.2).size) [] (by decide) true).mono ?_
                rintro e w4 ⟨v4, rfl, hr4, hk4⟩
                obtain ⟨a4, c4, rfl⟩ := hr4.shape
                have H4 := Lib.hid hk4
                clear hr4 hk4 hrow
                go_wp2_with fail
                exact HR.out.stop HM.out ⟨.inl rfl, _, H3.out.1.kept H4.out (fun k hk => by have := HIN.out.hX; omega)⟩ (((HK2.out m1).on H3.out.2).wideX.on H4.out.wideP)
            | cons c z =>
              rw [show escapedM (92 :: c :: z) qs = .ok (lit qs (eb c) true, z) from by show Except.ok (lit qs (enc [c]) true, z) = _; rw [enc_one]] at hm
              simp only at hm
              have HLE := Lib.hid (fun m => rletter_any (HL2.out m) hp2 hsz)
              have HP3 := Lib.hid hp2.step
              have HF3 := Lib.hid (HR.out.fits.lit (eb c) true (show z.length + 1 ≤ (92 :: c :: z).length by simp) (by have := eb_length c; simp; omega))
              have HMM := Lib.hid hm
              have hx := eb_length c
              have HX := Lib.hid (show (eb c).length ≤ 16000 by omega)
              clear hR hl hp hp2 hsz hple hb hm hen hbe h0 hn0 hE hx
              cases d
              all_goals
                first | (have z125 := y125 rfl; clear y125) | clear y125
                go_wp2_with fail
                refine HAT.out.mono ?_
                rintro e w1 ⟨rfl, m1, rfl⟩
                go_wp2_with fail
                refine (HLE.out m1).mono ?_
                rintro e w3 ⟨rfl, hl3, hk3⟩
                have H3 := Lib.hid (And.intro hl3 hk3)
                clear hl3 hk3
                go_wp2_with fail
                have hin := HIN.out.step ⟨_, H3.out.1, HP3.out⟩ ((HK2.out m1).on H3.out.2)
                refine (rlit_any (xs := 92 :: c :: z) hin.row HR.out.fits hin.hB (eb c) HX.out true).mono ?_
                rintro e w4 ⟨v4, rfl, hr4, hk4⟩
                have H4 := Lib.hid (And.intro hin (And.intro hr4 hk4))
                clear hin hr4 hk4
                go_wp2_with fail
                exact HR.out.go ⟨⟨[92, c], rfl⟩, by simp; omega⟩ HMM.out (H4.out.1.put H4.out.2.1 H4.out.2.2) HF3.out (((HK2.out m1).on H3.out.2).wideX.on H4.out.2.2.wideP)
          have y92 : ((b : Int) == 92) = false := rne h92
          cases ys with
          | nil => exact absurd hb.symm h0
          | cons c z =>
            have hbg : begins c = false := by
              rw [show begins c = begins b from hbe.symm]
              simp [begins, acts, h39, h34, h36, h92]
            have hm2 := HM0.out
            rw [parts_one HB.out hp.good hbg hE hR.fuel] at hm2
            have hme : d = false → metaN b = false := fun e => by
              rw [e] at hen
              unfold metaN
              rw [hen, hbe, show begins (next (c :: z)) = false from hbg]; rfl
            have HMM := Lib.hid hm2
            have HLE := Lib.hid (fun m => rletter_any (hl.drewN m) hp hsz)
            have HP3 := Lib.hid hp.step
            have HF3 := Lib.hid (HR.out.fits.lit (eb c) false (show z.length + 1 ≤ (c :: z).length by simp) (by have := eb_length c; simp; omega))
            have hx := eb_length c
            have HX := Lib.hid (show (eb c).length ≤ 16000 by omega)
            clear hR hl hp hsz hple hb hm hm2 hen hbe h0 hn0 hE hx hbg h39 h34 h36 h92
            cases d
            all_goals
              first | (have z125 := y125 rfl; clear y125) | clear y125
              first | (have hme2 := hme rfl; clear hme) | clear hme
              go_wp2_with fail
              refine HAT.out.mono ?_
              rintro e w1 ⟨rfl, m1, rfl⟩
              go_wp2_with fail
              (try (refine (rmeta_any b _).mono ?_; rintro e w3 ⟨rfl, rfl⟩; rw [hme2]; go_wp2_with fail))
              refine (HLE.out m1).mono ?_
              rintro e w3 ⟨rfl, hl3, hk3⟩
              have H3 := Lib.hid (And.intro hl3 hk3)
              clear hl3 hk3
              go_wp2_with fail
              have hin := (HIN.out.drewN m1).step ⟨_, H3.out.1, HP3.out⟩ H3.out.2
              refine (rlit_any (xs := c :: z) hin.row HR.out.fits hin.hB (eb c) HX.out false).mono ?_
              rintro e w4 ⟨v4, rfl, hr4, hk4⟩
              have H4 := Lib.hid (And.intro hin (And.intro hr4 hk4))
              clear hin hr4 hk4
              go_wp2_with fail
              exact HR.out.go ⟨⟨[c], rfl⟩, by simp⟩ HMM.out (H4.out.1.put H4.out.2.1 H4.out.2.2) HF3.out ((((Kept.refl _ wr).drewN _).on H3.out.2).wideX.on H4.out.2.2.wideP)
    · obtain ⟨a, n, k, rfl, c, hm, he, hk⟩ := hR
      have hne := he.ne.2
      obtain ⟨hc, j, hl⟩ := he
      have c2 := hl.c2
      have HH := Lib.hid (And.intro hm (And.intro hc (And.intro hl hk)))
      clear hm hc hl hk
      go_wp2_with fail
      go_ret
      rw [HH.out.1]
      exact ⟨⟨_, _, _, rfl⟩, ⟨HH.out.2.1, _, HH.out.2.2.1⟩, HH.out.2.2.2.mono fun k hk h => h.elim id fun h => by omega⟩
end Go.Proofs.YtloaalapkmbgeaaDoor
