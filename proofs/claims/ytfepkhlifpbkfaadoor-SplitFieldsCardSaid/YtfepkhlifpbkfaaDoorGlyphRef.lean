/-
  Proved: contracts of the statements' own Valid, Runes and Name, by a text's letters. Conditions: at most 1000 bytes; the library's tables lie as they should.
-/
import Derived.Test.YtfepkhlifpbkfaaDoorGlyphSame
import Derived.Test.YtfepkhlifpbkfaaDoorGlyphTabs
import Derived.Test.YtfepkhlifpbkfaaDoorGlyphRLet
namespace Go.Proofs.YtfepkhlifpbkfaaDoor
open Go Go.RowKit GlyphMath

theorem rest_tail (s : ByteArray) (n : Nat) : ∀ k i, s.size - (n + i) ≤ k → rest (s.extract n s.size) i = rest s (n + i)
  | 0, i, h => by rw [rest_end _ _ (by rw [Lib.tail_size]; omega), rest_end _ _ (by omega)]
  | k + 1, i, h => by
    by_cases hp : n + i < s.size
    · have hw := width_pos s (n + i) hp
      rw [rest_step _ _ (by rw [Lib.tail_size]; omega), rest_step _ _ hp, Lib.tail_decode, rest_tail s n k _ (by omega), Nat.add_assoc]
    · rw [rest_end _ _ (by rw [Lib.tail_size]; omega), rest_end _ _ (by omega)]
theorem letters_tail (t : ByteArray) (h : 0 < t.size) : letters t = (Utf8.decode t 0).1 :: letters (t.extract (Utf8.decode t 0).2 t.size) := by
  have e := rest_step t 0 h
  rw [rest_zero, Nat.zero_add] at e
  rw [e, ← rest_zero (t.extract _ _), rest_tail t _ t.size 0 (by omega), Nat.add_zero]

end Go.Proofs.YtfepkhlifpbkfaaDoor
