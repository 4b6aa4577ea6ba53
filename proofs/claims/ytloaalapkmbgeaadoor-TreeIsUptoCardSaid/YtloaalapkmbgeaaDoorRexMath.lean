/-
  Proved: a lexer that goes letter by letter comes to what one comes to that goes run by run; bytes of letters, places in a text. Conditions: as each says.
-/
import Derived.Test.YtloaalapkmbgeaaDoorLexFit
namespace Go.Proofs.YtloaalapkmbgeaaDoor.LexMath
open Go Go.Lib GlyphMath

theorem lit_lit (ps : List Pt) (a b : List UInt8) (q : Bool) : lit (lit ps a q) b q = lit ps (a ++ b) q := by
  rcases List.eq_nil_or_concat ps with rfl | ⟨r, p, rfl⟩
  · simp [lit]
  · rw [List.concat_eq_append, lit_last, lit_last]
    split
    · rename_i h
      rw [lit_last, if_pos h]
      simp
    · rw [lit_last, if_pos ⟨rfl, rfl⟩]
theorem not34 {ys : List Nat} (h : takes [34] ys = none) : next ys ≠ 34 := fun e => by
  rw [takes_one, if_pos ⟨e, fun e' => by rw [e'] at e; cases e⟩] at h
  cases h
theorem is34 {ys : List Nat} (h : next ys ≠ 34) : takes [34] ys = none := by
  rw [takes_one, if_neg fun e => h e.1]

theorem partsL_fuel {br : List Nat → Res Pt} (hb : BraceOk br) {deep : Bool} : ∀ (f g : Nat) (xs : List Nat) (ps : List Pt), xs.length < f → xs.length < g → partsL br deep f xs ps = partsL br deep g xs ps
  | 0, _, _, _, h, _ => by omega
  | _ + 1, 0, _, _, _, h => by omega
  | f + 1, g + 1, xs, ps, hf, hg => by
    rw [partsL, partsL]
    by_cases hc : next xs = 0 ∨ ends (next xs) deep = true
    · rw [if_pos hc, if_pos hc]
    · rw [if_neg hc, if_neg hc]
      cases hp : partM br deep xs ps with
      | error e => rfl
      | ok a =>
        obtain ⟨ps', xs'⟩ := a
        simp only
        have h1 := (part_less hb hp (fun h => hc (.inl h)) (by cases he : ends (next xs) deep; rfl; exact absurd (.inr he) hc)).1.2
        exact partsL_fuel hb f g xs' ps' (by omega) (by omega)
theorem doubleL_fuel {br : List Nat → Res Pt} (hb : BraceOk br) : ∀ (f g : Nat) (xs : List Nat) (ps : List Pt), xs.length < f → xs.length < g → doubleL br f xs ps = doubleL br g xs ps
  | 0, _, _, _, h, _ => by omega
  | _ + 1, 0, _, _, _, h => by omega
  | f + 1, g + 1, xs, ps, hf, hg => by
    rw [doubleL, doubleL]
    cases ht : takes [34] xs with
    | some r => rfl
    | none =>
      simp only
      cases hp : withinM br xs ps with
      | error e => rfl
      | ok a =>
        obtain ⟨ps', xs'⟩ := a
        simp only
        have h1 := (within_less hb hp (not34 ht)).1.2
        exact doubleL_fuel hb f g xs' ps' (by omega) (by omega)

theorem enc_one (c : Nat) : enc [c] = eb c := by simp [enc]
/-- One letter of a run of mere letters. -/
theorem parts_one {br : List Nat → Res Pt} (hb : BraceOk br) {deep : Bool} {f c : Nat} {r : List Nat} {ps : List Pt} (hg : ∀ x ∈ c :: r, GoodL x) (h1 : begins c = false) (h2 : ends c deep = false) (hf : r.length + 1 < f + 1) :
    partsL br deep (f + 1) (c :: r) ps = partsL br deep f r (lit ps (eb c) false) := by
  have h0 : c ≠ 0 := by have := (hg c (by simp)).1; omega
  have hn : c ≠ 92 ∧ c ≠ 39 ∧ c ≠ 34 ∧ c ≠ 36 := by
    simp only [begins, acts, Bool.or_eq_false_iff, beq_eq_false_iff_ne, ne_eq] at h1
    omega
  have e1 : ∀ (f : Nat) (c : Nat) (r : List Nat) (ps : List Pt), c ≠ 0 → begins c = false → ends c deep = false → c ≠ 92 ∧ c ≠ 39 ∧ c ≠ 34 ∧ c ≠ 36 →
      partsL br deep (f + 1) (c :: r) ps = partsL br deep f (left (fun r => begins r || ends r deep) (c :: r)) (lit ps (enc (got (fun r => begins r || ends r deep) (c :: r))) false) := by
    intro f c r ps h0 h1 h2 hn
    have hp : partM br deep (c :: r) ps = .ok (lit ps (enc (got (fun r => begins r || ends r deep) (c :: r))) false, left (fun r => begins r || ends r deep) (c :: r)) := by
      unfold partM
      rw [if_neg (show ¬ next (c :: r) = 92 from hn.1), if_neg (show ¬ next (c :: r) = 39 from hn.2.1), if_neg (show ¬ next (c :: r) = 34 from hn.2.2.1), if_neg (show ¬ next (c :: r) = 36 from hn.2.2.2)]
    rw [partsL, if_neg (by simp [next, h0, h2]), hp]
  rw [e1 f c r ps h0 h1 h2 hn]
  have g1 : got (fun r => begins r || ends r deep) (c :: r) = c :: got (fun r => begins r || ends r deep) r := by rw [got, h1, h2]; rfl
  have g2 : left (fun r => begins r || ends r deep) (c :: r) = left (fun r => begins r || ends r deep) r := by rw [left, h1, h2]; rfl
  rw [g1, g2]
  cases r with
  | nil => simp [got, left, enc]
  | cons c2 r2 =>
    cases hS2 : (fun r => begins r || ends r deep) c2 with
    | true =>
      rw [show got (fun r => begins r || ends r deep) (c2 :: r2) = [] from by rw [got]; exact if_pos hS2, show left (fun r => begins r || ends r deep) (c2 :: r2) = c2 :: r2 from by rw [left]; exact if_pos hS2, enc_one]
    | false =>
      obtain ⟨g, rfl⟩ : ∃ g, f = g + 1 := ⟨f - 1, by omega⟩
      have k1 : begins c2 = false ∧ ends c2 deep = false := by simpa using hS2
      have hn2 : c2 ≠ 92 ∧ c2 ≠ 39 ∧ c2 ≠ 34 ∧ c2 ≠ 36 := by
        have := k1.1
        simp only [begins, acts, Bool.or_eq_false_iff, beq_eq_false_iff_ne, ne_eq] at this
        omega
      rw [e1 g c2 r2 (lit ps (eb c) false) (by have := (hg c2 (by simp)).1; omega) k1.1 k1.2 hn2, lit_lit]
      have hl := left_lt (fun r => begins r || ends r deep) c2 r2 hS2
      rw [show enc (c :: got (fun r => begins r || ends r deep) (c2 :: r2)) = eb c ++ enc (got (fun r => begins r || ends r deep) (c2 :: r2)) from rfl]
      simp only [List.length_cons] at hf hl
      exact partsL_fuel hb _ _ _ _ (by omega) (by omega)
theorem double_one {br : List Nat → Res Pt} (hb : BraceOk br) {f c : Nat} {r : List Nat} {ps : List Pt} (hg : ∀ x ∈ c :: r, GoodL x) (h1 : acts c = false) (hf : r.length + 1 < f + 1) :
    doubleL br (f + 1) (c :: r) ps = doubleL br f r (lit ps (eb c) true) := by
  have e1 : ∀ (f : Nat) (c : Nat) (r : List Nat) (ps : List Pt), c ≠ 0 → acts c = false → doubleL br (f + 1) (c :: r) ps = doubleL br f (left acts (c :: r)) (lit ps (enc (got acts (c :: r))) true) := by
    intro f c r ps h0 h1
    have hn : c ≠ 34 ∧ c ≠ 36 ∧ c ≠ 92 := by
      simp only [acts, Bool.or_eq_false_iff, beq_eq_false_iff_ne, ne_eq] at h1
      omega
    have hp : withinM br (c :: r) ps = .ok (lit ps (enc (got acts (c :: r))) true, left acts (c :: r)) := by
      unfold withinM
      rw [if_neg (show ¬ next (c :: r) = 0 from h0), if_neg (show ¬ next (c :: r) = 92 from hn.2.2), if_neg (show ¬ next (c :: r) = 36 from hn.2.1)]
    rw [doubleL, is34 (show next (c :: r) ≠ 34 from hn.1), hp]
  rw [e1 f c r ps (by have := (hg c (by simp)).1; omega) h1]
  have g1 : got acts (c :: r) = c :: got acts r := by rw [got, h1]; rfl
  have g2 : left acts (c :: r) = left acts r := by rw [left, h1]; rfl
  rw [g1, g2]
  cases r with
  | nil => simp [got, left, enc]
  | cons c2 r2 =>
    cases hS2 : acts c2 with
    | true =>
      rw [show got acts (c2 :: r2) = [] by rw [got, hS2]; rfl, show left acts (c2 :: r2) = c2 :: r2 by rw [left, hS2]; rfl, enc_one]
    | false =>
      obtain ⟨g, rfl⟩ : ∃ g, f = g + 1 := ⟨f - 1, by omega⟩
      rw [e1 g c2 r2 (lit ps (eb c) true) (by have := (hg c2 (by simp)).1; omega) hS2, lit_lit]
      have hl := left_lt acts c2 r2 hS2
      rw [show enc (c :: got acts (c2 :: r2)) = eb c ++ enc (got acts (c2 :: r2)) from rfl]
      simp only [List.length_cons] at hf hl
      exact doubleL_fuel hb _ _ _ _ (by omega) (by omega)

/-! ### Bytes -/
/-- A letter's first byte, and those behind it. -/
def fb (c : Nat) : Nat := if c < 128 then c else if c < 2048 then 192 + c / 64 else if c < 65536 then 224 + c / 4096 else 240 + c / 262144
def tb (c : Nat) : List UInt8 :=
  if c < 128 then [] else if c < 2048 then [UInt8.ofNat (128 + c % 64)]
  else if c < 65536 then [UInt8.ofNat (128 + c / 64 % 64), UInt8.ofNat (128 + c % 64)]
  else [UInt8.ofNat (128 + c / 4096 % 64), UInt8.ofNat (128 + c / 64 % 64), UInt8.ofNat (128 + c % 64)]
theorem eb_split (c : Nat) : eb c = UInt8.ofNat (fb c) :: tb c := by
  unfold eb fb tb
  repeat' split
  all_goals first | rfl | omega
theorem tb_mid (c : Nat) : ∀ b ∈ tb c, 128 ≤ b.toNat ∧ b.toNat < 192 := by
  have key : ∀ k, 128 ≤ (UInt8.ofNat (128 + k % 64)).toNat ∧ (UInt8.ofNat (128 + k % 64)).toNat < 192 := fun k => by rw [byte_of _ (by omega)]; omega
  unfold tb
  intro b hb
  repeat' split at hb
  all_goals simp only [List.mem_cons, List.not_mem_nil, or_false] at hb
  · rw [hb]; exact key _
  · rcases hb with rfl | rfl <;> exact key _
  · rcases hb with rfl | rfl | rfl <;> exact key _
theorem fb_facts {c : Nat} (h : GoodL c) : 0 < fb c ∧ fb c < 256 ∧ (c < 128 → fb c = c ∧ tb c = []) ∧ (128 ≤ c → 192 ≤ fb c) := by
  obtain ⟨h0, h1, -⟩ := h
  refine ⟨?_, ?_, fun hc => ?_, fun hc => ?_⟩
  · unfold fb; repeat' split
    all_goals omega
  · unfold fb; repeat' split
    all_goals omega
  · unfold fb tb; rw [if_pos hc, if_pos hc]; exact ⟨rfl, rfl⟩
  · unfold fb; repeat' split
    all_goals omega
/-- The byte that is next; 0: none. -/
def fbn : List Nat → Nat
  | [] => 0
  | c :: _ => fb c
theorem fbn_lt {xs : List Nat} (h : ∀ x ∈ xs, GoodL x) : fbn xs < 256 := by
  cases xs with
  | nil => simp [fbn]
  | cons c r => exact (fb_facts (h c (by simp))).2.1
theorem fbn_iff {xs : List Nat} (h : ∀ x ∈ xs, GoodL x) {k : Nat} (hk : k < 128) : fbn xs = k ↔ next xs = k := by
  cases xs with
  | nil => rfl
  | cons c r =>
    obtain ⟨h1, h2, h3, h4⟩ := fb_facts (h c (by simp))
    show fb c = k ↔ c = k
    by_cases hc : c < 128
    · rw [(h3 hc).1]
    · have := h4 (by omega)
      omega
theorem fbn_low {xs : List Nat} (h : ∀ x ∈ xs, GoodL x) : fbn xs = next xs ∨ (192 ≤ fbn xs ∧ 128 ≤ next xs) := by
  cases xs with
  | nil => exact .inl rfl
  | cons c r =>
    obtain ⟨h1, h2, h3, h4⟩ := fb_facts (h c (by simp))
    by_cases hc : c < 128
    · exact .inl (h3 hc).1
    · exact .inr ⟨h4 (by omega), by show 128 ≤ c; omega⟩
theorem firstR_high {n : Nat} (h : 128 ≤ n) : firstR (n : Int) = false := by
  unfold firstR; simp; omega
theorem moreR_high {n : Nat} (h : 128 ≤ n) : moreR (n : Int) = false := by
  unfold moreR; rw [firstR_high h]; simp; omega
theorem firstR_fbn {xs : List Nat} (h : ∀ x ∈ xs, GoodL x) : firstR (fbn xs : Int) = firstR (next xs : Int) := by
  rcases fbn_low h with e | ⟨e1, e2⟩
  · rw [e]
  · rw [firstR_high (by omega), firstR_high e2]
theorem moreR_fbn {xs : List Nat} (h : ∀ x ∈ xs, GoodL x) : moreR (fbn xs : Int) = moreR (next xs : Int) := by
  rcases fbn_low h with e | ⟨e1, e2⟩
  · rw [e]
  · rw [moreR_high (by omega), moreR_high e2]
theorem other_high {n : Nat} (h : 128 ≤ n) : other n = false := by
  unfold other; simp; omega
theorem other_fbn {xs : List Nat} (h : ∀ x ∈ xs, GoodL x) : other (fbn xs) = other (next xs) := by
  rcases fbn_low h with e | ⟨e1, e2⟩
  · rw [e]
  · rw [other_high (by omega), other_high e2]
theorem reckons_high {n : Nat} (h : 128 ≤ n) : reckons n = false := by
  unfold reckons; rw [moreR_high h]; simp; omega
theorem reckons_fbn {xs : List Nat} (h : ∀ x ∈ xs, GoodL x) : reckons (fbn xs) = reckons (next xs) := by
  rcases fbn_low h with e | ⟨e1, e2⟩
  · rw [e]
  · rw [reckons_high (by omega), reckons_high e2]

/-! ### Places -/
/-- At a place of a text stand these letters, to the end. -/
structure Pos (s : ByteArray) (i : Nat) (xs : List Nat) : Prop where
  rest : s.data.toList.drop i = enc xs
  le : i ≤ s.size
  good : ∀ x ∈ xs, GoodL x
theorem Pos.len {s : ByteArray} {i : Nat} {xs : List Nat} (h : Pos s i xs) : i + (enc xs).length = s.size := by
  have e := congrArg List.length h.rest
  rw [List.length_drop, Array.length_toList] at e
  have := h.le
  rw [show s.data.size = s.size from rfl] at e
  omega
theorem Pos.pass {s : ByteArray} {i : Nat} {p r : List Nat} (h : Pos s i (p ++ r)) : Pos s (i + (enc p).length) r := by
  have hl := h.len
  rw [enc_append, List.length_append] at hl
  refine ⟨?_, by omega, fun x hx => h.good x (List.mem_append_right _ hx)⟩
  rw [← List.drop_drop, h.rest, enc_append, List.drop_left]
theorem Pos.step {s : ByteArray} {i c : Nat} {r : List Nat} (h : Pos s i (c :: r)) : Pos s (i + (eb c).length) r := by
  have := Pos.pass (p := [c]) h
  rwa [enc_one] at this
theorem Pos.byte {s : ByteArray} {i : Nat} {xs : List Nat} (h : Pos s i xs) (k : Nat) : s.data.toList[i + k]? = (enc xs)[k]? := by
  rw [← h.rest, List.getElem?_drop]
theorem byte_get {s : ByteArray} {j : Nat} {b : UInt8} (h : s.data.toList[j]? = some b) : ∃ hj : j < s.size, s[j] = b := by
  obtain ⟨h1, h2⟩ := List.getElem?_eq_some_iff.1 h
  rw [Array.length_toList] at h1
  refine ⟨h1, ?_⟩
  rw [ByteArray.getElem_eq_getElem_data, ← h2, Array.getElem_toList]
theorem byte_none {s : ByteArray} {j : Nat} (h : s.data.toList[j]? = none) : s.size ≤ j := by
  have := List.getElem?_eq_none_iff.1 h
  rw [Array.length_toList] at this
  exact this
/-- The byte at a place, 0: none. -/
def byteAt (s : ByteArray) (j : Nat) : Nat := (s.data.toList[j]?).elim 0 (·.toNat)
theorem byteAt_lt (s : ByteArray) (j : Nat) : byteAt s j < 256 := by
  unfold byteAt
  cases s.data.toList[j]? with
  | none => simp
  | some b => exact b.toNat_lt
theorem byteAt_in {s : ByteArray} {j : Nat} (h : j < s.size) : byteAt s j = (s[j]).toNat := by
  unfold byteAt
  have h' : j < s.data.toList.length := by rw [Array.length_toList]; exact h
  rw [List.getElem?_eq_getElem h', Option.elim_some, Array.getElem_toList, ByteArray.getElem_eq_getElem_data]
theorem byteAt_out {s : ByteArray} {j : Nat} (h : s.size ≤ j) : byteAt s j = 0 := by
  unfold byteAt
  rw [List.getElem?_eq_none_iff.2 (by rw [Array.length_toList]; exact h)]
  rfl
theorem Pos.fbn {s : ByteArray} {i : Nat} {xs : List Nat} (h : Pos s i xs) : byteAt s i = fbn xs := by
  unfold byteAt
  have := h.byte 0
  rw [Nat.add_zero] at this
  rw [this]
  cases xs with
  | nil => rfl
  | cons c r =>
    rw [enc, eb_split]
    simp only [List.cons_append, List.getElem?_cons_zero, Option.elim_some, LexMath.fbn]
    exact byte_of _ (fb_facts (h.good c (by simp))).2.1
/-- The byte behind a letter of ASCII. -/
theorem Pos.fbn1 {s : ByteArray} {i c : Nat} {r : List Nat} (h : Pos s i (c :: r)) (hc : c < 128) : Pos s (i + 1) r := by
  have := h.step
  rw [eb_split, ((fb_facts (h.good c (by simp))).2.2.1 hc).2] at this
  exact this
theorem extract_list (s : ByteArray) (i j : Nat) : s.extract i j = ⟨((s.data.toList.drop i).take (j - i)).toArray⟩ := by
  apply ByteArray.ext
  rw [ByteArray.data_extract]
  apply Array.ext'
  simp [List.extract]
theorem Pos.extract {s : ByteArray} {i : Nat} {p r : List Nat} (h : Pos s i (p ++ r)) : s.extract i (i + (enc p).length) = ⟨(enc p).toArray⟩ := by
  rw [extract_list, h.rest, enc_append, Nat.add_sub_cancel_left, List.take_left]
/-- No byte of letters other than k is k. -/
theorem enc_not {k : Nat} (hk : k < 128) : ∀ {l : List Nat}, (∀ x ∈ l, GoodL x) → (∀ x ∈ l, x ≠ k) → ∀ b ∈ enc l, b.toNat ≠ k
  | [], _, _, b, hb => by cases hb
  | c :: r, hg, hn, b, hb => by
    rw [enc, eb_split, List.cons_append] at hb
    obtain ⟨h1, h2, h3, h4⟩ := fb_facts (hg c (by simp))
    rcases List.mem_cons.1 hb with rfl | hb
    · rw [byte_of _ h2]
      by_cases hc : c < 128
      · rw [(h3 hc).1]; exact hn c (by simp)
      · have := h4 (by omega); omega
    · rcases List.mem_append.1 hb with hb | hb
      · have := tb_mid c b hb; omega
      · exact enc_not hk (fun x hx => hg x (by simp [hx])) (fun x hx => hn x (by simp [hx])) b hb
theorem got_not {k : Nat} : ∀ (l : List Nat), ∀ x ∈ got (fun r => r == k) l, x ≠ k
  | [], x, hx => by cases hx
  | c :: r, x, hx => by
    unfold got at hx
    cases hc : (c == k) with
    | true => rw [hc] at hx; cases hx
    | false =>
      rw [hc] at hx
      rcases List.mem_cons.1 hx with rfl | hx
      · simpa using hc
      · exact got_not r x hx
/-- Within a run up to the letter k no byte is k, nor 0. -/
theorem Pos.run {s : ByteArray} {i k : Nat} {xs : List Nat} (h : Pos s i xs) (hk : k < 128) (j : Nat) (hj : j < (enc (got (fun r => r == k) xs)).length) : byteAt s (i + j) ≠ k ∧ byteAt s (i + j) ≠ 0 ∧ i + j < s.size := by
  have hx : s.data.toList[i + j]? = (enc (got (fun r => r == k) xs))[j]? := by
    rw [h.byte j]
    conv => lhs; rw [← got_left (fun r => r == k) xs, enc_append]
    exact List.getElem?_append_left hj
  have hg : ∀ x ∈ got (fun r => r == k) xs, GoodL x := fun x hx => h.good x (by rw [← got_left (fun r => r == k) xs]; exact List.mem_append_left _ hx)
  rw [List.getElem?_eq_getElem hj] at hx
  have hm := List.getElem_mem hj
  obtain ⟨h1, -⟩ := byte_get hx
  unfold byteAt
  rw [hx]
  exact ⟨enc_not hk hg (got_not xs) _ hm, enc_not (k := 0) (by omega) hg (fun x hx => by have := (hg x hx).1; omega) _ hm, h1⟩
theorem Pos.run_end {s : ByteArray} {i : Nat} {xs : List Nat} (S : Nat → Bool) (h : Pos s i xs) : Pos s (i + (enc (got S xs)).length) (left S xs) := by
  have : Pos s i (got S xs ++ left S xs) := by rw [got_left]; exact h
  exact this.pass
end Go.Proofs.YtloaalapkmbgeaaDoor.LexMath
