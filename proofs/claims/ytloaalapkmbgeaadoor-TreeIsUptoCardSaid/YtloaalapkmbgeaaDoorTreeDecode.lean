/-
  Proved: plain facts on a text's next letter, of an ASCII byte and of another. Conditions: as each says.
-/
import Derived.Test.YtloaalapkmbgeaaDoorTreeMath
namespace Go.Proofs.YtloaalapkmbgeaaDoor.TreeMath
open Go Go.Lib GlyphMath LexMath

set_option maxHeartbeats 1000000 in
theorem decodeN_high (n b0 b1 b2 b3 : Nat) (h : 128 ≤ b0) (h0 : b0 < 256) : 128 ≤ (decodeN n b0 b1 b2 b3).1 ∧ (decodeN n b0 b1 b2 b3).1 ≤ 1114111 ∧ ((decodeN n b0 b1 b2 b3).1 < 55296 ∨ 57343 < (decodeN n b0 b1 b2 b3).1) ∧
    (1 < (decodeN n b0 b1 b2 b3).2 → 128 ≤ b1) ∧ (2 < (decodeN n b0 b1 b2 b3).2 → 128 ≤ b2) ∧ (3 < (decodeN n b0 b1 b2 b3).2 → 128 ≤ b3) ∧ (decodeN n b0 b1 b2 b3).2 ≤ 4 := by
  unfold decodeN
  rw [if_neg (by omega)]
  repeat' split
  all_goals refine ⟨?_, ?_, ?_, ?_, ?_, ?_, ?_⟩ <;> simp only <;> omega

theorem get_drop (s : ByteArray) (i : Nat) (h : i < s.size) : s.data.toList.drop i = s.get! i :: s.data.toList.drop (i + 1) := by
  have hl : i < s.data.toList.length := by rw [← size_eq]; exact h
  rw [List.drop_eq_getElem_cons hl]
  congr 1
  have h2 : s.data.toList[i]? = some (s.data.toList[i]) := List.getElem?_eq_getElem hl
  rw [← getD_get!', List.getD_eq_getElem?_getD, h2]
  rfl
theorem dec_low (s : ByteArray) (i : Nat) (h : (s.get! i).toNat < 128) : Utf8.decode s i = ((s.get! i).toNat, 1) := by
  rw [decode_at]
  unfold decodeN
  rw [if_pos h]
theorem any_cons (b : UInt8) (l cs : List UInt8) : anyIn (b :: l) cs = (cs.contains b || anyIn l cs) := rfl
theorem not_in {b : UInt8} {cs : List UInt8} (hb : 128 ≤ b.toNat) (hc : ∀ c ∈ cs, c.toNat < 128) : cs.contains b = false := by
  cases h : cs.contains b with
  | false => rfl
  | true =>
    have := hc b (by simpa using h)
    omega
theorem any_skip (s : ByteArray) (cs : List UInt8) (hc : ∀ c ∈ cs, c.toNat < 128) : ∀ d i, i + d ≤ s.size → (∀ j, j < d → 128 ≤ (s.get! (i + j)).toNat) → anyIn (s.data.toList.drop i) cs = anyIn (s.data.toList.drop (i + d)) cs
  | 0, _, _, _ => rfl
  | d + 1, i, hs, hj => by
    rw [get_drop s i (by omega), any_cons, not_in (show 128 ≤ (s.get! i).toNat from hj 0 (by omega)) hc, Bool.false_or, any_skip s cs hc d (i + 1) (by omega) (fun j h => by
      have := hj (j + 1) (by omega)
      rwa [show i + (j + 1) = i + 1 + j by omega] at this)]
    congr 2; omega
/-- A letter that is no ASCII. -/
theorem dec_high (s : ByteArray) (i : Nat) (hi : i < s.size) (h : 128 ≤ (s.get! i).toNat) : ∃ r d, Utf8.decode s i = (r, d) ∧ 128 ≤ r ∧ GoodL r ∧ 1 ≤ d ∧ i + d ≤ s.size ∧ ∀ cs : List UInt8, (∀ c ∈ cs, c.toNat < 128) → anyIn (s.data.toList.drop i) cs = anyIn (s.data.toList.drop (i + d)) cs := by
  obtain ⟨r, d, hd⟩ : ∃ r d, Utf8.decode s i = (r, d) := ⟨_, _, rfl⟩
  have hw := width_pos s i hi
  have hl := width_le s i hi
  have hh := decodeN_high (s.size - i) (s.get! i).toNat (s.get! (i + 1)).toNat (s.get! (i + 2)).toNat (s.get! (i + 3)).toNat h (s.get! i).toNat_lt
  rw [← decode_at, hd] at hh
  rw [hd] at hw hl
  simp only at hh hw hl
  obtain ⟨h1, h2, h3, h4, h5, h6, h7⟩ := hh
  refine ⟨r, d, hd, h1, ⟨by omega, h2, h3⟩, hw, hl, fun cs hc => any_skip s cs hc d i hl fun j hj => ?_⟩
  match j, hj with
  | 0, _ => exact h
  | 1, hj => exact h4 hj
  | 2, hj => exact h5 hj
  | 3, hj => exact h6 hj
  | j + 4, hj => omega
theorem drop_all (s : ByteArray) (i : Nat) (h : ¬ i < s.size) : s.data.toList.drop i = [] := by
  rw [List.drop_eq_nil_iff, ← size_eq]; omega
end Go.Proofs.YtloaalapkmbgeaaDoor.TreeMath
