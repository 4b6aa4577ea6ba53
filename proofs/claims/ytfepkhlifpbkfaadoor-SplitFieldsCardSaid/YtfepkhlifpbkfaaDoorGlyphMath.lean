/-
  Proved: plain facts on letters of a text (UTF-8): the letters of two texts side by side, of a row of ASCII bytes, of a letter's own bytes; how many there are. Conditions: as each says.
-/
import Derived.Lib.RuneCountTail
import Derived.Lib.RuneBytes
import Derived.Lib.DecodeN
import Derived.Laws.RangeAny
namespace Go.Proofs.YtfepkhlifpbkfaaDoor.GlyphMath
open Go Go.Lib

/-- The letters from a place on. -/
def runesAt (s : ByteArray) : Nat → Nat → List Nat
  | 0, _ => []
  | f + 1, i => if i < s.size then (Utf8.decode s i).1 :: runesAt s f (i + (Utf8.decode s i).2) else []
/-- A text's letters. -/
def letters (s : ByteArray) : List Nat := runesAt s s.size 0

/-- Here begins none, or it is 0. -/
def bad (s : ByteArray) (i : Nat) : Bool := (Utf8.decode s i).1 == 0 || ((Utf8.decode s i).1 == 65533 && (Utf8.decode s i).2 == 1)
/-- The first place that is bad, from a place on. -/
def badAt (s : ByteArray) : Nat → Nat → Option Nat
  | 0, _ => none
  | f + 1, i => if i < s.size then (if bad s i then some i else badAt s f (i + (Utf8.decode s i).2)) else none
def firstBad (s : ByteArray) : Option Nat := badAt s s.size 0

theorem runesAt_end (s : ByteArray) (f i : Nat) (h : ¬ i < s.size) : runesAt s f i = [] := by cases f <;> simp [runesAt, h]
theorem badAt_end (s : ByteArray) (f i : Nat) (h : ¬ i < s.size) : badAt s f i = none := by cases f <;> simp [badAt, h]

theorem width_pos (s : ByteArray) (i : Nat) (h : i < s.size) : 1 ≤ (Utf8.decode s i).2 := decode_width_pos s i h

theorem decodeN_width (n b0 b1 b2 b3 : Nat) (hn : 0 < n) : (decodeN n b0 b1 b2 b3).2 ≤ n ∧ (decodeN n b0 b1 b2 b3).2 ≤ 4 := by
  unfold decodeN
  repeat' split
  all_goals constructor <;> simp only <;> omega

theorem width_le (s : ByteArray) (i : Nat) (h : i < s.size) : i + (Utf8.decode s i).2 ≤ s.size := by
  rw [decode_at]
  have := (decodeN_width (s.size - i) (s.get! i).toNat (s.get! (i + 1)).toNat (s.get! (i + 2)).toNat (s.get! (i + 3)).toNat (by omega)).1
  omega

theorem runesAt_fuel (s : ByteArray) : ∀ f g i, s.size - i ≤ f → s.size - i ≤ g → runesAt s f i = runesAt s g i
  | 0, g, i, hf, _ => by rw [runesAt_end s g i (by omega)]; rfl
  | f + 1, 0, i, _, hg => by rw [runesAt_end s (f + 1) i (by omega)]; rfl
  | f + 1, g + 1, i, hf, hg => by
    unfold runesAt
    by_cases h : i < s.size
    · have hw := width_pos s i h
      rw [if_pos h, if_pos h, runesAt_fuel s f g _ (by omega) (by omega)]
    · rw [if_neg h, if_neg h]

theorem badAt_fuel (s : ByteArray) : ∀ f g i, s.size - i ≤ f → s.size - i ≤ g → badAt s f i = badAt s g i
  | 0, g, i, hf, _ => by rw [badAt_end s g i (by omega)]; rfl
  | f + 1, 0, i, _, hg => by rw [badAt_end s (f + 1) i (by omega)]; rfl
  | f + 1, g + 1, i, hf, hg => by
    unfold badAt
    by_cases h : i < s.size
    · have hw := width_pos s i h
      rw [if_pos h, if_pos h, badAt_fuel s f g _ (by omega) (by omega)]
    · rw [if_neg h, if_neg h]

theorem runesAt_length (s : ByteArray) : ∀ f i, (runesAt s f i).length ≤ f ∧ (runesAt s f i).length ≤ s.size - i
  | 0, i => by simp [runesAt]
  | f + 1, i => by
    unfold runesAt
    by_cases h : i < s.size
    · have hw := width_pos s i h
      have ih := runesAt_length s f (i + (Utf8.decode s i).2)
      rw [if_pos h, List.length_cons]; omega
    · rw [if_neg h]; simp

/-- P7.2. -/
theorem letters_length (s : ByteArray) : (letters s).length ≤ s.size := (runesAt_length s s.size 0).1

/-! ### side by side -/
theorem append_get_left (a b : ByteArray) (i : Nat) (h : i < a.size) : (a ++ b).get! i = a.get! i := by
  rw [← getD_get!', ← getD_get!', ByteArray.data_append, Array.toList_append]
  rw [size_eq] at h
  simp [List.getD, List.getElem?_append_left h]
theorem append_get_right (a b : ByteArray) (j : Nat) : (a ++ b).get! (a.size + j) = b.get! j := by
  rw [← getD_get!', ← getD_get!', ByteArray.data_append, Array.toList_append, size_eq]
  simp [List.getD, List.getElem?_append_right]

theorem decode_right (a b : ByteArray) (j : Nat) : Utf8.decode (a ++ b) (a.size + j) = Utf8.decode b j := by
  rw [decode_at, decode_at, append_get_right, Nat.add_assoc, append_get_right, Nat.add_assoc, append_get_right, Nat.add_assoc, append_get_right, ByteArray.size_append]
  congr 1; omega

set_option maxHeartbeats 4000000 in
theorem decodeN_more (n m b0 b1 b2 b3 c1 c2 c3 : Nat) (hn : 0 < n) (hm : n ≤ m) (h1 : 1 < n → c1 = b1) (h2 : 2 < n → c2 = b2) (h3 : 3 < n → c3 = b3)
    (hg : ¬ ((decodeN n b0 b1 b2 b3).1 = 65533 ∧ (decodeN n b0 b1 b2 b3).2 = 1)) : decodeN m b0 c1 c2 c3 = decodeN n b0 b1 b2 b3 := by
  by_cases k1 : 1 < n
  · rw [h1 k1]
    by_cases k2 : 2 < n
    · rw [h2 k2]
      by_cases k3 : 3 < n
      · rw [h3 k3]
        have m1 : 1 < m := by omega
        have m2 : 2 < m := by omega
        have m3 : 3 < m := by omega
        simp only [decodeN, k1, k2, k3, m1, m2, m3, true_and]
      · have m1 : 1 < m := by omega
        have m2 : 2 < m := by omega
        revert hg
        simp only [decodeN, k1, k2, k3, m1, m2, true_and, false_and, and_false, if_false]
        repeat' split
        all_goals first | (intro; rfl) | (intro h; exact absurd ⟨rfl, rfl⟩ h) | (intro; exfalso; omega)
    · have m1 : 1 < m := by omega
      have k3 : ¬ 3 < n := by omega
      revert hg
      simp only [decodeN, k1, k2, k3, m1, true_and, false_and, and_false, if_false]
      repeat' split
      all_goals first | (intro; rfl) | (intro h; exact absurd ⟨rfl, rfl⟩ h) | (intro; exfalso; omega)
  · have k2 : ¬ 2 < n := by omega
    have k3 : ¬ 3 < n := by omega
    revert hg
    simp only [decodeN, k1, k2, k3, false_and, and_false, if_false]
    repeat' split
    all_goals first | (intro; rfl) | (intro h; exact absurd ⟨rfl, rfl⟩ h) | (intro; exfalso; omega)

theorem decode_left (a b : ByteArray) (i : Nat) (h : i < a.size) (hg : ¬ ((Utf8.decode a i).1 = 65533 ∧ (Utf8.decode a i).2 = 1)) : Utf8.decode (a ++ b) i = Utf8.decode a i := by
  rw [decode_at] at hg
  rw [decode_at a i, decode_at (a ++ b) i, append_get_left a b i h]
  refine decodeN_more _ _ _ _ _ _ _ _ _ (by omega) (by rw [ByteArray.size_append]; omega) (fun k => ?_) (fun k => ?_) (fun k => ?_) hg
  all_goals rw [append_get_left a b _ (by omega)]

theorem not_bad {s : ByteArray} {i : Nat} (h : bad s i = false) : ¬ ((Utf8.decode s i).1 = 65533 ∧ (Utf8.decode s i).2 = 1) := by
  intro ⟨h1, h2⟩
  simp [bad, h1, h2] at h

theorem badAt_none {s : ByteArray} {f i : Nat} (hf : s.size - i ≤ f) (h : badAt s f i = none) (hi : i < s.size) : bad s i = false ∧ badAt s (f - 1) (i + (Utf8.decode s i).2) = none := by
  cases f with
  | zero => omega
  | succ f =>
    unfold badAt at h
    rw [if_pos hi] at h
    cases hb : bad s i with
    | true => rw [hb] at h; simp at h
    | false => rw [hb] at h; exact ⟨rfl, by simpa using h⟩

theorem runes_right (a b : ByteArray) : ∀ f j, runesAt (a ++ b) f (a.size + j) = runesAt b f j
  | 0, _ => rfl
  | f + 1, j => by
    unfold runesAt
    rw [decode_right, Nat.add_assoc, runes_right a b f, ByteArray.size_append]
    by_cases h : j < b.size
    · rw [if_pos h, if_pos (by omega)]
    · rw [if_neg h, if_neg (by omega)]
theorem bad_right (a b : ByteArray) (j : Nat) : bad (a ++ b) (a.size + j) = bad b j := by unfold bad; rw [decode_right]
theorem badAt_right (a b : ByteArray) : ∀ f j, badAt (a ++ b) f (a.size + j) = (badAt b f j).map (a.size + ·)
  | 0, _ => rfl
  | f + 1, j => by
    unfold badAt
    rw [bad_right, decode_right, Nat.add_assoc, badAt_right a b f, ByteArray.size_append]
    by_cases h : j < b.size
    · rw [if_pos h, if_pos (by omega)]
      cases bad b j <;> simp
    · rw [if_neg h, if_neg (by omega)]; rfl

theorem runes_both (a b : ByteArray) : ∀ f i, a.size - i ≤ f → i ≤ a.size → badAt a f i = none → runesAt (a ++ b) (f + b.size) i = runesAt a f i ++ runesAt b b.size 0
  | 0, i, hf, hi, _ => by
    obtain rfl : i = a.size := by omega
    rw [Nat.zero_add]
    exact runes_right a b b.size 0
  | f + 1, i, hf, hi, hb => by
    by_cases h : i < a.size
    · obtain ⟨g, hr⟩ := badAt_none hf hb h
      have hd := decode_left a b i h (not_bad g)
      have hw := width_pos a i h
      have hl := width_le a i h
      rw [show f + 1 + b.size = (f + b.size) + 1 by omega]
      rw [runesAt, runesAt, if_pos h, if_pos (by rw [ByteArray.size_append]; omega), hd, runes_both a b f _ (by omega) hl (by simpa using hr), List.cons_append]
    · obtain rfl : i = a.size := by omega
      rw [runesAt_end a _ _ (by omega), List.nil_append, ← runes_right a b b.size 0]
      exact runesAt_fuel _ _ _ _ (by rw [ByteArray.size_append]; omega) (by rw [ByteArray.size_append]; omega)

theorem bad_both (a b : ByteArray) : ∀ f i, a.size - i ≤ f → i ≤ a.size → badAt a f i = none → badAt (a ++ b) (f + b.size) i = (badAt b b.size 0).map (a.size + ·)
  | 0, i, hf, hi, _ => by
    obtain rfl : i = a.size := by omega
    rw [Nat.zero_add]
    exact badAt_right a b b.size 0
  | f + 1, i, hf, hi, hb => by
    by_cases h : i < a.size
    · obtain ⟨g, hr⟩ := badAt_none hf hb h
      have hd := decode_left a b i h (not_bad g)
      have hw := width_pos a i h
      have hl := width_le a i h
      have hbb : bad (a ++ b) i = false := by rw [← g]; unfold bad; rw [hd]
      rw [show f + 1 + b.size = (f + b.size) + 1 by omega]
      rw [badAt, if_pos (by rw [ByteArray.size_append]; omega), hbb, hd]
      simpa using bad_both a b f _ (by omega) hl (by simpa using hr)
    · obtain rfl : i = a.size := by omega
      rw [← badAt_right a b b.size 0]
      exact badAt_fuel _ _ _ _ (by rw [ByteArray.size_append]; omega) (by rw [ByteArray.size_append]; omega)

/-- OF TWO TEXTS THE LETTERS ARE THOSE OF BOTH. -/
theorem letters_append (a b : ByteArray) (h : firstBad a = none) : letters (a ++ b) = letters a ++ letters b := by
  unfold letters
  rw [ByteArray.size_append]
  exact runes_both a b a.size 0 (by omega) (by omega) h
theorem firstBad_append (a b : ByteArray) (h : firstBad a = none) : firstBad (a ++ b) = (firstBad b).map (a.size + ·) := by
  unfold firstBad
  rw [ByteArray.size_append]
  exact bad_both a b a.size 0 (by omega) (by omega) h

/-! ### a letter's own bytes -/
theorem byte_of (n : Nat) (h : n < 256) : (UInt8.ofNat n).toNat = n := by rw [UInt8.toNat_ofNat']; omega

/-- What a rune is written as. -/
def asLetter (r : Int) : Nat := if Utf8.valid r then r.toNat else 65533

theorem asLetter_le (r : Int) : asLetter r ≤ 1114111 ∧ (asLetter r < 55296 ∨ 57344 ≤ asLetter r) := by
  unfold asLetter
  cases h : Utf8.valid r with
  | true =>
    simp only [if_true]
    simp only [Utf8.valid, Bool.or_eq_true, Bool.and_eq_true, decide_eq_true_eq] at h
    omega
  | false => simp

set_option maxHeartbeats 4000000 in
theorem decode_encode (r : Int) : Utf8.decode (Utf8.encode r) 0 = (asLetter r, (Utf8.encode r).size) := by
  obtain ⟨c, hc⟩ : ∃ c, asLetter r = c := ⟨_, rfl⟩
  have hle := asLetter_le r
  have he : Utf8.encode r = (if c < 0x80 then ⟨#[UInt8.ofNat c]⟩ else if c < 0x800 then ⟨#[UInt8.ofNat (0xC0 + c / 64), UInt8.ofNat (0x80 + c % 64)]⟩ else if c < 0x10000 then ⟨#[UInt8.ofNat (0xE0 + c / 4096), UInt8.ofNat (0x80 + c / 64 % 64), UInt8.ofNat (0x80 + c % 64)]⟩ else ⟨#[UInt8.ofNat (0xF0 + c / 262144), UInt8.ofNat (0x80 + c / 4096 % 64), UInt8.ofNat (0x80 + c / 64 % 64), UInt8.ofNat (0x80 + c % 64)]⟩) := by
    rw [← hc]; rfl
  rw [hc] at hle ⊢
  rw [he, decode_at]
  by_cases k1 : c < 128
  · rw [if_pos k1]
    have g0 : ((⟨#[UInt8.ofNat c]⟩ : ByteArray).get! 0).toNat = c := byte_of c (by omega)
    rw [g0]; unfold decodeN; rw [if_pos (by omega)]; rfl
  · rw [if_neg k1]
    by_cases k2 : c < 2048
    · rw [if_pos k2]
      obtain ⟨x, hx⟩ : ∃ x, 0xC0 + c / 64 = x := ⟨_, rfl⟩
      obtain ⟨y, hy⟩ : ∃ y, 0x80 + c % 64 = y := ⟨_, rfl⟩
      rw [hx, hy]
      have g0 : ((⟨#[UInt8.ofNat x, UInt8.ofNat y]⟩ : ByteArray).get! 0).toNat = x := byte_of x (by omega)
      have g1 : ((⟨#[UInt8.ofNat x, UInt8.ofNat y]⟩ : ByteArray).get! (0 + 1)).toNat = y := byte_of y (by omega)
      have gs : ((⟨#[UInt8.ofNat x, UInt8.ofNat y]⟩ : ByteArray)).size = 2 := rfl
      rw [g0, g1, gs]; unfold decodeN
      rw [if_neg (by omega), if_pos (by omega), if_pos (by omega)]
      apply Prod.ext <;> simp only <;> omega
    · rw [if_neg k2]
      by_cases k3 : c < 65536
      · rw [if_pos k3]
        obtain ⟨x, hx⟩ : ∃ x, 0xE0 + c / 4096 = x := ⟨_, rfl⟩
        obtain ⟨y, hy⟩ : ∃ y, 0x80 + c / 64 % 64 = y := ⟨_, rfl⟩
        obtain ⟨z, hz⟩ : ∃ z, 0x80 + c % 64 = z := ⟨_, rfl⟩
        rw [hx, hy, hz]
        have g0 : ((⟨#[UInt8.ofNat x, UInt8.ofNat y, UInt8.ofNat z]⟩ : ByteArray).get! 0).toNat = x := byte_of x (by omega)
        have g1 : ((⟨#[UInt8.ofNat x, UInt8.ofNat y, UInt8.ofNat z]⟩ : ByteArray).get! (0 + 1)).toNat = y := byte_of y (by omega)
        have g2 : ((⟨#[UInt8.ofNat x, UInt8.ofNat y, UInt8.ofNat z]⟩ : ByteArray).get! (0 + 2)).toNat = z := byte_of z (by omega)
        have gs : ((⟨#[UInt8.ofNat x, UInt8.ofNat y, UInt8.ofNat z]⟩ : ByteArray)).size = 3 := rfl
        rw [g0, g1, g2, gs]; unfold decodeN
        rw [if_neg (by omega), if_neg (by omega), if_pos (by omega), if_pos (by omega)]
        apply Prod.ext <;> simp only <;> omega
      · rw [if_neg k3]
        obtain ⟨x, hx⟩ : ∃ x, 0xF0 + c / 262144 = x := ⟨_, rfl⟩
        obtain ⟨y, hy⟩ : ∃ y, 0x80 + c / 4096 % 64 = y := ⟨_, rfl⟩
        obtain ⟨z, hz⟩ : ∃ z, 0x80 + c / 64 % 64 = z := ⟨_, rfl⟩
        obtain ⟨u, hu⟩ : ∃ u, 0x80 + c % 64 = u := ⟨_, rfl⟩
        rw [hx, hy, hz, hu]
        have g0 : ((⟨#[UInt8.ofNat x, UInt8.ofNat y, UInt8.ofNat z, UInt8.ofNat u]⟩ : ByteArray).get! 0).toNat = x := byte_of x (by omega)
        have g1 : ((⟨#[UInt8.ofNat x, UInt8.ofNat y, UInt8.ofNat z, UInt8.ofNat u]⟩ : ByteArray).get! (0 + 1)).toNat = y := byte_of y (by omega)
        have g2 : ((⟨#[UInt8.ofNat x, UInt8.ofNat y, UInt8.ofNat z, UInt8.ofNat u]⟩ : ByteArray).get! (0 + 2)).toNat = z := byte_of z (by omega)
        have g3 : ((⟨#[UInt8.ofNat x, UInt8.ofNat y, UInt8.ofNat z, UInt8.ofNat u]⟩ : ByteArray).get! (0 + 3)).toNat = u := byte_of u (by omega)
        have gs : ((⟨#[UInt8.ofNat x, UInt8.ofNat y, UInt8.ofNat z, UInt8.ofNat u]⟩ : ByteArray)).size = 4 := rfl
        rw [g0, g1, g2, g3, gs]; unfold decodeN
        rw [if_neg (by omega), if_neg (by omega), if_neg (by omega), if_pos (by omega), if_pos (by omega)]
        apply Prod.ext <;> simp only <;> omega

theorem encode_size (r : Int) : 1 ≤ (Utf8.encode r).size ∧ (Utf8.encode r).size ≤ 4 := by
  unfold Utf8.encode
  simp only
  generalize (if Utf8.valid r then r.toNat else Utf8.runeError) = c
  repeat' split
  all_goals simp [ByteArray.size]

/-- A letter's bytes are that letter. -/
theorem letters_encode (r : Int) : letters (Utf8.encode r) = [asLetter r] := by
  have h := (encode_size r).1
  unfold letters
  obtain ⟨n, hn⟩ : ∃ n, (Utf8.encode r).size = n + 1 := ⟨(Utf8.encode r).size - 1, by omega⟩
  rw [hn, runesAt, if_pos (by omega), decode_encode, runesAt_end _ _ _ (by simp only [Nat.zero_add]; omega)]

/-! ### from a place on, without fuel -/
def rest (s : ByteArray) (i : Nat) : List Nat := runesAt s (s.size - i) i
def badFrom (s : ByteArray) (i : Nat) : Option Nat := badAt s (s.size - i) i
theorem rest_zero (s : ByteArray) : rest s 0 = letters s := rfl
theorem badFrom_zero (s : ByteArray) : badFrom s 0 = firstBad s := rfl
theorem rest_end (s : ByteArray) (i : Nat) (h : ¬ i < s.size) : rest s i = [] := runesAt_end _ _ _ h
theorem badFrom_end (s : ByteArray) (i : Nat) (h : ¬ i < s.size) : badFrom s i = none := badAt_end _ _ _ h
theorem rest_step (s : ByteArray) (i : Nat) (h : i < s.size) : rest s i = (Utf8.decode s i).1 :: rest s (i + (Utf8.decode s i).2) := by
  have hw := width_pos s i h
  unfold rest
  rw [runesAt_fuel s (s.size - i) (s.size - i - 1 + 1) i (by omega) (by omega), runesAt, if_pos h]
  congr 1
  exact runesAt_fuel s _ _ _ (by omega) (by omega)
theorem badFrom_step (s : ByteArray) (i : Nat) (h : i < s.size) : badFrom s i = if bad s i then some i else badFrom s (i + (Utf8.decode s i).2) := by
  have hw := width_pos s i h
  unfold badFrom
  rw [badAt_fuel s (s.size - i) (s.size - i - 1 + 1) i (by omega) (by omega), badAt, if_pos h]
  congr 1
  exact badAt_fuel s _ _ _ (by omega) (by omega)
theorem rest_length (s : ByteArray) (i : Nat) : (rest s i).length ≤ s.size - i := (runesAt_length s _ _).2

/-- Where the first bad place is; the length, if there is none. -/
def place (s : ByteArray) : Nat := (firstBad s).getD s.size
def isText (s : ByteArray) : Bool := (firstBad s).isNone

/-! ### U+FFFD written as itself -/
set_option maxHeartbeats 4000000 in
theorem decodeN_none (n b0 b1 b2 b3 : Nat) (g0 : b0 < 256) (h : (decodeN n b0 b1 b2 b3).1 = 65533) :
    (decodeN n b0 b1 b2 b3).2 = 1 ↔ ¬ (2 < n ∧ b0 = 239 ∧ b1 = 191 ∧ b2 = 189) := by
  unfold decodeN at h ⊢
  by_cases k1 : b0 < 128
  · rw [if_pos k1] at h; simp only at h; omega
  · rw [if_neg k1] at h ⊢
    by_cases k2 : b0 / 32 = 6 ∧ (1 < n ∧ b1 / 64 = 2)
    · rw [if_pos k2] at h ⊢
      by_cases k3 : b0 % 32 * 64 + b1 % 64 ≥ 128
      · rw [if_pos k3] at h; simp only at h; omega
      · rw [if_neg k3]; simp only [true_iff]; omega
    · rw [if_neg k2] at h ⊢
      by_cases k4 : b0 / 16 = 14 ∧ (1 < n ∧ b1 / 64 = 2) ∧ (2 < n ∧ b2 / 64 = 2)
      · rw [if_pos k4] at h ⊢
        by_cases k5 : b0 % 16 * 4096 + b1 % 64 * 64 + b2 % 64 ≥ 2048 ∧ (b0 % 16 * 4096 + b1 % 64 * 64 + b2 % 64 < 55296 ∨ (57344 ≤ b0 % 16 * 4096 + b1 % 64 * 64 + b2 % 64 ∧ b0 % 16 * 4096 + b1 % 64 * 64 + b2 % 64 ≤ 1114111))
        · rw [if_pos k5] at h ⊢; simp only at h ⊢; omega
        · rw [if_neg k5]; simp only [true_iff]; omega
      · rw [if_neg k4] at h ⊢
        by_cases k6 : b0 / 8 = 30 ∧ (1 < n ∧ b1 / 64 = 2) ∧ (2 < n ∧ b2 / 64 = 2) ∧ (3 < n ∧ b3 / 64 = 2)
        · rw [if_pos k6] at h ⊢
          by_cases k7 : b0 % 8 * 262144 + b1 % 64 * 4096 + b2 % 64 * 64 + b3 % 64 ≥ 65536 ∧ (b0 % 8 * 262144 + b1 % 64 * 4096 + b2 % 64 * 64 + b3 % 64 < 55296 ∨ (57344 ≤ b0 % 8 * 262144 + b1 % 64 * 4096 + b2 % 64 * 64 + b3 % 64 ∧ b0 % 8 * 262144 + b1 % 64 * 4096 + b2 % 64 * 64 + b3 % 64 ≤ 1114111))
          · rw [if_pos k7] at h; simp only at h; omega
          · rw [if_neg k7]; simp only [true_iff]; omega
        · rw [if_neg k6]; simp only [true_iff]; omega

/-- The bytes from a place on begin with U+FFFD's own. -/
def ownNone (s : ByteArray) (i : Nat) : Bool := Lib.hasPrefix (s.extract i s.size).data.toList (⟨#[239, 191, 189]⟩ : ByteArray).data.toList

theorem drop_get (l : List UInt8) (i j : Nat) : (l.drop i).getD j 0 = l.getD (i + j) 0 := by simp [List.getD, List.getElem?_drop]
theorem prefix3 (l : List UInt8) (a b c : UInt8) : hasPrefix l [a, b, c] = true ↔ (2 < l.length ∧ l.getD 0 0 = a ∧ l.getD 1 0 = b ∧ l.getD 2 0 = c) := by
  unfold hasPrefix
  match l with
  | [] => simp [List.isPrefixOf]
  | [_] => simp [List.isPrefixOf]
  | [_, _] => simp [List.isPrefixOf]
  | x :: y :: z :: r =>
    simp only [List.isPrefixOf, Bool.and_true, Bool.and_eq_true, beq_iff_eq, List.length_cons, List.getD, List.getElem?_cons_zero, List.getElem?_cons_succ, Option.getD_some]
    constructor
    · rintro ⟨rfl, rfl, rfl⟩; exact ⟨by omega, rfl, rfl, rfl⟩
    · rintro ⟨-, rfl, rfl, rfl⟩; exact ⟨rfl, rfl, rfl⟩
theorem byte_is (b : UInt8) (k : Nat) (hk : k < 256) : b = UInt8.ofNat k ↔ b.toNat = k := by
  constructor
  · intro h; rw [h]; exact byte_of k hk
  · intro h; rw [← h]; simp

theorem ownNone_iff (s : ByteArray) (i : Nat) (hd : (Utf8.decode s i).1 = 65533) : ownNone s i = !((Utf8.decode s i).2 == 1) := by
  have e := decodeN_none (s.size - i) (s.get! i).toNat (s.get! (i + 1)).toNat (s.get! (i + 2)).toNat (s.get! (i + 3)).toNat (UInt8.toNat_lt _) (by rw [← decode_at]; exact hd)
  rw [← decode_at] at e
  have p := prefix3 (s.extract i s.size).data.toList 239 191 189
  rw [getD_get!', getD_get!', getD_get!', tail_get!, tail_get!, tail_get!, ← size_eq, tail_size, show (239 : UInt8) = UInt8.ofNat 239 from rfl, show (191 : UInt8) = UInt8.ofNat 191 from rfl, show (189 : UInt8) = UInt8.ofNat 189 from rfl,
    byte_is _ _ (by omega), byte_is _ _ (by omega), byte_is _ _ (by omega), Nat.add_zero] at p
  have q : ownNone s i = true ↔ ¬ (Utf8.decode s i).2 = 1 := by
    rw [e]
    exact p.trans (by constructor <;> intro k <;> simpa using k)
  cases hb : ownNone s i with
  | true => rw [hb] at q; simpa using q
  | false => rw [hb] at q; simpa using q

/-- What the program asks of a letter is whether it is bad. -/
theorem bad_asked (s : ByteArray) (i : Nat) : bad s i = ((Utf8.decode s i).1 == 0 || ((Utf8.decode s i).1 == 65533 && !ownNone s i)) := by
  unfold bad
  by_cases hd : (Utf8.decode s i).1 = 65533
  · rw [ownNone_iff s i hd]; simp
  · have : ((Utf8.decode s i).1 == 65533) = false := by simpa using hd
    rw [this]; simp

/-! ### rows of ASCII bytes -/
theorem decode_low (s : ByteArray) (i : Nat) (ha : (s.get! i).toNat < 128) : Utf8.decode s i = ((s.get! i).toNat, 1) := by
  rw [decode_at]; unfold decodeN; rw [if_pos ha]

theorem runesAt_low (s : ByteArray) (ha : ∀ i, i < s.size → (s.get! i).toNat < 128) : ∀ f i, s.size - i ≤ f → i ≤ s.size → runesAt s f i = (s.data.toList.drop i).map (·.toNat)
  | 0, i, hf, hi => by
    rw [List.drop_eq_nil_of_le (by rw [← size_eq]; omega)]; rfl
  | f + 1, i, hf, hi => by
    unfold runesAt
    by_cases h : i < s.size
    · have hl : i < s.data.toList.length := by rw [← size_eq]; exact h
      have hg : s.get! i = s.data.toList[i] := by rw [← getD_get!']; simp only [List.getD, List.getElem?_eq_getElem hl, Option.getD_some]
      rw [if_pos h, decode_low s i (ha i h), runesAt_low s ha f (i + 1) (by omega) (by omega), List.drop_eq_getElem_cons hl, hg, List.map_cons]
    · rw [if_neg h, List.drop_eq_nil_of_le (by rw [← size_eq]; omega)]; rfl

theorem letters_low (s : ByteArray) (ha : ∀ b ∈ s.data.toList, b.toNat < 128) : letters s = s.data.toList.map (·.toNat) := by
  unfold letters
  have := runesAt_low s (fun i h => by
    have hl : i < s.data.toList.length := by rw [← size_eq]; exact h
    rw [← getD_get!']; simp only [List.getD, List.getElem?_eq_getElem hl, Option.getD_some]; exact ha _ (List.getElem_mem hl)) s.size 0 (by omega) (by omega)
  simpa using this

theorem badAt_low (s : ByteArray) (ha : ∀ i, i < s.size → 0 < (s.get! i).toNat ∧ (s.get! i).toNat < 128) : ∀ f i, badAt s f i = none
  | 0, _ => rfl
  | f + 1, i => by
    unfold badAt
    by_cases h : i < s.size
    · have := ha i h
      have hb : bad s i = false := by
        unfold bad; rw [decode_low s i (ha i h).2]
        have h0 : (s.get! i).toNat ≠ 0 := by omega
        have h1 : (s.get! i).toNat ≠ 65533 := by omega
        simp [h0, h1]
      rw [if_pos h, hb, badAt_low s ha f]; rfl
    · rw [if_neg h]
theorem firstBad_low (s : ByteArray) (ha : ∀ b ∈ s.data.toList, 0 < b.toNat ∧ b.toNat < 128) : firstBad s = none :=
  badAt_low s (fun i h => by
    have hl : i < s.data.toList.length := by rw [← size_eq]; exact h
    rw [← getD_get!']; simp only [List.getD, List.getElem?_eq_getElem hl, Option.getD_some]; exact ha _ (List.getElem_mem hl)) _ _

/-! ### names -/
def firstR (r : Int) : Bool := decide ((97 ≤ r ∧ r ≤ 122) ∨ (65 ≤ r ∧ r ≤ 90) ∨ r = 95)
def moreR (r : Int) : Bool := firstR r || decide (48 ≤ r ∧ r ≤ 57)
def blankR (r : Int) : Bool := decide (r = 32 ∨ r = 9 ∨ r = 10)
def nameL (l : List Nat) : Bool := match l with | [] => false | a :: _ => firstR a && l.all (fun (x : Nat) => moreR x) && decide (l.length ≤ 12)

/-- Where a rune is no letter, what is written in its place is in no name. -/
theorem more_asLetter (r : Int) : moreR (asLetter r) = moreR r := by
  unfold asLetter
  cases h : Utf8.valid r with
  | true =>
    simp only [if_true]
    simp only [Utf8.valid, Bool.or_eq_true, Bool.and_eq_true, decide_eq_true_eq] at h
    rw [Int.toNat_of_nonneg (by omega)]
  | false =>
    have h0 : ¬ (48 ≤ r ∧ r ≤ 122) := by
      intro hh
      simp only [Utf8.valid, Bool.or_eq_false_iff, Bool.and_eq_false_iff, decide_eq_false_iff_not] at h
      omega
    have e : moreR r = false := by simp only [moreR, firstR, Bool.or_eq_false_iff, decide_eq_false_iff_not]; omega
    rw [e]; rfl
end Go.Proofs.YtfepkhlifpbkfaaDoor.GlyphMath
