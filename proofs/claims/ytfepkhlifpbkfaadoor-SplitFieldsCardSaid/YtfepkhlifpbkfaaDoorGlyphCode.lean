/-
  Proved: contracts of Valid, Count and Name of a text, by its letters. Conditions: none.
-/
import Derived.Test.YtfepkhlifpbkfaaDoorGlyphLet
import Derived.WalkSpells
import Derived.WalkLawsBesides
import Derived.Below
import Derived.LoopTactic
import Derived.Laws.Strings3
namespace Go.Proofs.YtfepkhlifpbkfaaDoor
open Go Go.RowKit GlyphMath

theorem below_iter (w : World) (s : ByteArray) (p : Nat) : Below w.heap.size w (w.iter s p) := (Below.refl _ w).alloc (Nat.le_refl _) _





/-! ### Name -/
theorem low_rest (s : ByteArray) : ∀ n i, s.size - i ≤ n → i ≤ s.size → (rest s i).all (fun (x : Nat) => moreR x) = true → (rest s i).length = s.size - i
  | 0, i, hn, hi, _ => by rw [rest_end s i (by omega)]; simp; omega
  | n + 1, i, hn, hi, ha => by
    by_cases h : i < s.size
    · rw [rest_step s i h, List.all_cons, Bool.and_eq_true] at ha
      have h1 : (Utf8.decode s i).1 < 128 := by
        have := ha.1
        simp only [moreR, firstR, Bool.or_eq_true, decide_eq_true_eq] at this
        omega
      have h2 : (s[i]'h).toNat < 128 := by
        rcases Nat.lt_or_ge (s[i]'h).toNat 128 with k | k
        · exact k
        · have := (decode_high s i h k).1; omega
      have hd := decode_ascii s i h h2
      rw [hd] at ha
      rw [rest_step s i h, hd, List.length_cons, low_rest s n (i + 1) (by omega) (by omega) ha.2]; omega
    · rw [rest_end s i h]; simp; omega

/-- A text of so many bytes is a name just if its letters say so. -/
theorem name_few (s : ByteArray) (h0 : 0 < s.size) (h1 : s.size ≤ 12) : nameL (letters s) = (firstR (Utf8.decode s 0).1 && (letters s).all (fun (x : Nat) => moreR x)) := by
  have hl := letters_length s
  have e := rest_step s 0 h0
  rw [rest_zero] at e
  have e2 : nameL (letters s) = (firstR (Utf8.decode s 0).1 && (letters s).all (fun (x : Nat) => moreR x) && decide ((letters s).length ≤ 12)) := by rw [e]; rfl
  rw [e2, decide_eq_true (by omega), Bool.and_true]
theorem name_long (s : ByteArray) (h : 12 < s.size) : nameL (letters s) = false := by
  have e := rest_step s 0 (by omega)
  rw [rest_zero] at e
  have e2 : nameL (letters s) = (firstR (Utf8.decode s 0).1 && (letters s).all (fun (x : Nat) => moreR x) && decide ((letters s).length ≤ 12)) := by rw [e]; rfl
  cases ha : (letters s).all (fun (x : Nat) => moreR x) with
  | false => rw [e2, ha]; simp
  | true =>
    have := low_rest s s.size 0 (by omega) (by omega) (by rw [rest_zero]; exact ha)
    rw [rest_zero] at this
    rw [e2, decide_eq_false (by omega)]; simp
theorem nonempty (s : ByteArray) (h : 0 < s.size) : s.toList.isEmpty = false := by
  rw [Lib.toList_data]
  rw [Lib.size_eq] at h
  match hl : s.data.toList with
  | [] => rw [hl] at h; simp at h
  | _ :: _ => rfl



end Go.Proofs.YtfepkhlifpbkfaaDoor
