/-
  Proved: plain facts on a text's first line, and on its words. Conditions: as each says.
-/
import Derived.Test.YtfepkhlifpbkfaaGlyphMath
import Derived.Lib.IndexLaws
namespace Go.Proofs.Ytfepkhlifpbkfaa.SpMath
open Go Go.Lib GlyphMath

/-! ### Lines -/
def nlI (s : ByteArray) : Int := Lib.indexByte s.data.toList 10
def nlAt (s : ByteArray) : Option Nat := if nlI s < 0 then none else some (nlI s).toNat
def lineM (s : ByteArray) : ByteArray := match nlAt s with
  | some i => s.extract 0 i
  | none => s
def moreM (s : ByteArray) : ByteArray := match nlAt s with
  | some i => s.extract (i + 1) s.size
  | none => ⟨#[]⟩
theorem at_byte (s : ByteArray) (k : Nat) (h : k < s.size) : s.data.toList[k]? = some (s[k]'h) := by
  have hl : k < s.data.toList.length := by rw [← size_eq]; exact h
  rw [List.getElem?_eq_getElem hl]
  rfl
theorem nl_cases (s : ByteArray) : (nlAt s = none ∧ nlI s = -1 ∧ ∀ k (h : k < s.size), s[k]'h ≠ 10) ∨ ∃ i, nlAt s = some i ∧ nlI s = (i : Int) ∧ ∃ h : i < s.size, s[i]'h = 10 ∧ ∀ k (h : k < s.size), k < i → s[k]'h ≠ 10 := by
  by_cases hn : nlI s < 0
  · left
    have h1 : nlI s = -1 := by have := indexByte_ge s.data.toList 10; unfold nlI at hn ⊢; omega
    refine ⟨by unfold nlAt; rw [if_pos hn], h1, fun k h e => ?_⟩
    have := indexByte_none h1 k
    rw [at_byte s k h, e] at this
    exact this rfl
  · right
    obtain ⟨i, hi⟩ : ∃ i : Nat, nlI s = (i : Int) := ⟨(nlI s).toNat, by omega⟩
    obtain ⟨h1, h2⟩ := indexByte_some (show indexByte s.data.toList 10 = (i : Int) from hi)
    have hl : i < s.size := by rw [size_eq]; exact (List.getElem?_eq_some_iff.1 h1).1
    refine ⟨i, by unfold nlAt; rw [if_neg hn, hi]; simp, hi, hl, ?_, fun k h hk e => ?_⟩
    · rw [at_byte s i hl] at h1
      exact Option.some.inj h1
    · have := h2 k hk
      rw [at_byte s k h, e] at this
      exact this rfl
theorem nl_first {s : ByteArray} {i : Nat} (h : i < s.size) (h1 : s[i]'h = 10) (h2 : ∀ k (h : k < s.size), k < i → s[k]'h ≠ 10) : nlAt s = some i := by
  rcases nl_cases s with ⟨-, -, h3⟩ | ⟨j, h3, -, hj, h4, h5⟩
  · exact absurd h1 (h3 i h)
  · rcases Nat.lt_trichotomy i j with h6 | h6 | h6
    · exact absurd h1 (h5 i h h6)
    · rw [h3, h6]
    · exact absurd h4 (h2 j hj h6)
theorem nl_none {s : ByteArray} (h : ∀ k (h : k < s.size), s[k]'h ≠ 10) : nlAt s = none := by
  rcases nl_cases s with ⟨h1, -⟩ | ⟨j, -, -, hj, h4, -⟩
  · exact h1
  · exact absurd h4 (h j hj)
theorem data_ext {a b : ByteArray} (h : a.data.toList = b.data.toList) : a = b := by
  obtain ⟨⟨a⟩⟩ := a
  obtain ⟨⟨b⟩⟩ := b
  simp only at h
  rw [h]
/-- A text is its first line, the line feed, and the rest. -/
theorem line_hit {s : ByteArray} {i : Nat} (hn : nlAt s = some i) : lineM s ++ (⟨#[10]⟩ : ByteArray) ++ moreM s = s ∧ (lineM s).size + 1 + (moreM s).size = s.size := by
  rcases nl_cases s with ⟨h1, -⟩ | ⟨j, h3, -, hj, h4, -⟩
  · rw [h1] at hn; cases hn
  · rw [h3] at hn
    obtain rfl : j = i := by simpa using hn
    have e1 : lineM s = s.extract 0 j := by unfold lineM; rw [h3]
    have e2 : moreM s = s.extract (j + 1) s.size := by unfold moreM; rw [h3]
    rw [e1, e2]
    have hl : j < s.data.toList.length := by rw [← size_eq]; exact hj
    constructor
    · apply data_ext
      have e3 : ([10] : List UInt8) = [s[j]'hj] := by rw [h4]
      simp only [ByteArray.data_append, Array.toList_append, ByteArray.data_extract, Array.toList_extract]
      rw [e3]
      have e4 : s.data.toList.drop j = s[j]'hj :: s.data.toList.drop (j + 1) := List.drop_eq_getElem_cons hl
      have e5 : s.size = s.data.toList.length := size_eq s
      simp only [List.extract_eq_take_drop, List.drop_zero, Nat.sub_zero, e5]
      rw [List.take_of_length_le (l := List.drop (j + 1) s.data.toList) (by simp)]
      rw [List.append_assoc, List.singleton_append, ← e4, List.take_append_drop]
    · simp only [ByteArray.size_extract]
      omega
theorem line_miss {s : ByteArray} (hn : nlAt s = none) : lineM s = s ∧ moreM s = ⟨#[]⟩ := by
  unfold lineM moreM
  rw [hn]
  exact ⟨rfl, rfl⟩

/-! ### Words -/
def wStep (s : ByteArray) (st : List ByteArray × Option Nat) (i : Nat) : List ByteArray × Option Nat :=
  if blankR ((s.get! i).toNat : Int) then
    match st.2 with
    | some f => (st.1 ++ [s.extract f i], none)
    | none => (st.1, none)
  else
    match st.2 with
    | some f => (st.1, some f)
    | none => (st.1, some i)
def wAt (s : ByteArray) (i : Nat) : List ByteArray × Option Nat := (List.range i).foldl (wStep s) ([], none)
def wEnd (s : ByteArray) (L : List ByteArray) : Option Nat → List ByteArray
  | some f => L ++ [s.extract f s.size]
  | none => L
def wordsM (s : ByteArray) : List ByteArray := wEnd s (wAt s s.size).1 (wAt s s.size).2
theorem wAt_succ (s : ByteArray) (i : Nat) : wAt s (i + 1) = wStep s (wAt s i) i := by
  unfold wAt
  rw [List.range_succ, List.foldl_append]
  rfl
theorem wAt_len (s : ByteArray) : ∀ i, (wAt s i).1.length ≤ i ∧ ∀ f, (wAt s i).2 = some f → f < i
  | 0 => ⟨Nat.le_refl _, fun f h => by cases h⟩
  | i + 1 => by
    obtain ⟨h1, h2⟩ := wAt_len s i
    rw [wAt_succ]
    unfold wStep
    cases h : (wAt s i).2 with
    | none =>
      split
      · exact ⟨by simp only; omega, fun f e => by cases e⟩
      · exact ⟨by simp only; omega, fun f e => by simp at e; omega⟩
    | some g =>
      have := h2 g h
      split
      · exact ⟨by simp; omega, fun f e => by cases e⟩
      · exact ⟨by simp only; omega, fun f e => by simp at e; omega⟩
theorem wAt_skip (s : ByteArray) (f : Nat) : ∀ d i, (wAt s i).2 = some f → (∀ j, j < d → blankR ((s.get! (i + j)).toNat : Int) = false) → wAt s (i + d) = wAt s i
  | 0, _, _, _ => rfl
  | d + 1, i, h, hb => by
    have h1 := wAt_skip s f d i h (fun j hj => hb j (by omega))
    rw [show i + (d + 1) = (i + d) + 1 by omega, wAt_succ, h1]
    unfold wStep
    rw [hb d (by omega), h]
    simp only [Bool.false_eq_true, if_false]
    rw [← h]
theorem blank_high {n : Nat} (h : 128 ≤ n) : blankR (n : Int) = false := by
  unfold blankR
  simp only [decide_eq_false_iff_not]
  omega
set_option maxHeartbeats 1000000 in
theorem sp_high (n b0 b1 b2 b3 : Nat) (h : 128 ≤ b0) (h0 : b0 < 256) : 128 ≤ (decodeN n b0 b1 b2 b3).1 ∧
    (1 < (decodeN n b0 b1 b2 b3).2 → 128 ≤ b1) ∧ (2 < (decodeN n b0 b1 b2 b3).2 → 128 ≤ b2) ∧ (3 < (decodeN n b0 b1 b2 b3).2 → 128 ≤ b3) ∧ (decodeN n b0 b1 b2 b3).2 ≤ 4 := by
  unfold decodeN
  rw [if_neg (by omega)]
  repeat' split
  all_goals refine ⟨?_, ?_, ?_, ?_, ?_⟩ <;> simp only <;> omega
/-- A letter, and the bytes that it is of. -/
theorem letter_bytes (s : ByteArray) (i : Nat) {r d : Nat} (hd : Utf8.decode s i = (r, d)) :
    (blankR (r : Int) = true → d = 1 ∧ blankR ((s.get! i).toNat : Int) = true) ∧ (blankR (r : Int) = false → ∀ j, j < d → blankR ((s.get! (i + j)).toNat : Int) = false) := by
  by_cases h : (s.get! i).toNat < 128
  · rw [decode_low s i h] at hd
    simp only [Prod.mk.injEq] at hd
    obtain ⟨rfl, rfl⟩ := hd
    exact ⟨fun h => ⟨rfl, h⟩, fun h j hj => by obtain rfl : j = 0 := by omega
                                               exact h⟩
  · have hh := sp_high (s.size - i) (s.get! i).toNat (s.get! (i + 1)).toNat (s.get! (i + 2)).toNat (s.get! (i + 3)).toNat (by omega) (s.get! i).toNat_lt
    rw [← decode_at, hd] at hh
    simp only at hh
    obtain ⟨h1, h4, h5, h6, h7⟩ := hh
    refine ⟨fun h => (by rw [blank_high h1] at h; cases h), fun _ j hj => blank_high ?_⟩
    match j, hj with
    | 0, _ => exact Nat.le_of_not_lt h
    | 1, hj => exact h4 hj
    | 2, hj => exact h5 hj
    | 3, hj => exact h6 hj
    | j + 4, hj => omega
/-- What a letter does. -/
theorem word_blank (s : ByteArray) (i : Nat) {r d : Nat} (hd : Utf8.decode s i = (r, d)) (hb : blankR (r : Int) = true) : wAt s (i + d) = match (wAt s i).2 with
    | some f => ((wAt s i).1 ++ [s.extract f i], none)
    | none => ((wAt s i).1, none) := by
  obtain ⟨rfl, h2⟩ := (letter_bytes s i hd).1 hb
  rw [wAt_succ]
  unfold wStep
  rw [h2]
  rfl
theorem word_other (s : ByteArray) (i : Nat) (hi : i < s.size) {r d : Nat} (hd : Utf8.decode s i = (r, d)) (hb : blankR (r : Int) = false) : wAt s (i + d) = match (wAt s i).2 with
    | some f => ((wAt s i).1, some f)
    | none => ((wAt s i).1, some i) := by
  have h2 := (letter_bytes s i hd).2 hb
  have hw := width_pos s i hi
  rw [hd] at hw
  simp only at hw
  cases h : (wAt s i).2 with
  | some f =>
    rw [wAt_skip s f d i h h2]
    exact Prod.ext rfl h
  | none =>
    have e1 : wAt s (i + 1) = ((wAt s i).1, some i) := by
      rw [wAt_succ]
      unfold wStep
      have := h2 0 (by omega)
      rw [Nat.add_zero] at this
      rw [this, h]
      rfl
    have e2 := wAt_skip s i (d - 1) (i + 1) (by rw [e1]) (fun j hj => by
      have := h2 (j + 1) (by omega)
      rwa [show i + (j + 1) = i + 1 + j by omega] at this)
    rw [show i + 1 + (d - 1) = i + d by omega] at e2
    rw [e2, e1]
end Go.Proofs.Ytfepkhlifpbkfaa.SpMath
