/-
  Proved: what the model says of the deep texts. Conditions: none.
-/
import Derived.Test.YtpifbpfmjmcchaaDoorLexMath
namespace Go.Proofs.YtpifbpfmjmcchaaDoor
open Go Go.RowKit GlyphMath LexMath

def preB (q : Bool) : ByteArray := if q then ⟨#[34, 36, 123, 120, 58, 45]⟩ else ⟨#[36, 123, 120, 58, 45]⟩
def postB (q : Bool) : ByteArray := if q then ⟨#[125, 34]⟩ else ⟨#[125]⟩
/-- The deep text: braces n deep. -/
def deepB (q : Bool) : Nat → ByteArray
  | 0 => ⟨#[97]⟩
  | n + 1 => (preB q ++ deepB q n) ++ postB q
def deepT (q : Bool) (n : Nat) : ByteArray := ⟨#[98, 32]⟩ ++ deepB q n
def preN (q : Bool) : List Nat := if q then [34, 36, 123, 120, 58, 45] else [36, 123, 120, 58, 45]
def postN (q : Bool) : List Nat := if q then [125, 34] else [125]
def deepN (q : Bool) : Nat → List Nat
  | 0 => [97]
  | n + 1 => preN q ++ (deepN q n ++ postN q)

theorem pre_low (q : Bool) : (preB q).data.toList.map (·.toNat) = preN q ∧ ∀ b ∈ (preB q).data.toList, 0 < b.toNat ∧ b.toNat < 128 := by cases q <;> decide
theorem post_low (q : Bool) : (postB q).data.toList.map (·.toNat) = postN q ∧ ∀ b ∈ (postB q).data.toList, 0 < b.toNat ∧ b.toNat < 128 := by cases q <;> decide
theorem app_list (a b : ByteArray) : (a ++ b).data.toList = a.data.toList ++ b.data.toList := by simp
theorem deepB_low (q : Bool) : ∀ n, (deepB q n).data.toList.map (·.toNat) = deepN q n ∧ ∀ b ∈ (deepB q n).data.toList, 0 < b.toNat ∧ b.toNat < 128
  | 0 => by cases q <;> decide
  | n + 1 => by
    have ih := deepB_low q n
    have h1 := pre_low q
    have h2 := post_low q
    rw [deepB, app_list, app_list, deepN]
    refine ⟨?_, fun b hb => ?_⟩
    · rw [List.map_append, List.map_append, ih.1, h1.1, h2.1, List.append_assoc]
    · rcases List.mem_append.1 hb with hb | hb
      · rcases List.mem_append.1 hb with hb | hb
        · exact h1.2 b hb
        · exact ih.2 b hb
      · exact h2.2 b hb
theorem deepT_low (q : Bool) (n : Nat) : (deepT q n).data.toList.map (·.toNat) = 98 :: 32 :: deepN q n ∧ ∀ b ∈ (deepT q n).data.toList, 0 < b.toNat ∧ b.toNat < 128 := by
  have h := deepB_low q n
  rw [deepT, app_list]
  refine ⟨?_, fun b hb => ?_⟩
  · rw [List.map_append, h.1]; rfl
  · rcases List.mem_append.1 hb with hb | hb
    · exact (show ∀ b ∈ (⟨#[98, 32]⟩ : ByteArray).data.toList, 0 < b.toNat ∧ b.toNat < 128 by decide) b hb
    · exact h.2 b hb
theorem deep_letters (q : Bool) (n : Nat) : letters (deepT q n) = 98 :: 32 :: deepN q n := by
  rw [letters_low _ (fun b hb => ((deepT_low q n).2 b hb).2), (deepT_low q n).1]
theorem deep_text (q : Bool) (n : Nat) : isText (deepT q n) = true := by
  unfold isText
  rw [firstBad_low _ (deepT_low q n).2]; rfl
theorem deepB_size (q : Bool) : ∀ n, (deepB q n).size = 1 + n * (if q then 8 else 6)
  | 0 => by simp [deepB, ByteArray.size]
  | n + 1 => by
    rw [deepB, ByteArray.size_append, ByteArray.size_append, deepB_size q n]
    cases q <;> simp [preB, postB, ByteArray.size] <;> omega
theorem deep_size (q : Bool) (n : Nat) : (deepT q n).size = 3 + n * (if q then 8 else 6) := by
  rw [deepT, ByteArray.size_append, deepB_size]
  simp [ByteArray.size]; omega
def deepSays (n : Nat) : Except (Nat × Nat) (List Tk) → Bool
  | .ok _ => decide (n ≤ 20)
  | .error (a, c) => decide (20 < n) && decide (a = 2) && decide (c = 3)
def deepOk (q : Bool) (n : Nat) : Bool := deepSays n (tokensL (3 + n * (if q then 8 else 6)) ((98 :: 32 :: deepN q n).length + 1) (98 :: 32 :: deepN q n) [])
theorem deep_f : ∀ n, n < 41 → deepOk false n = true := by decide +kernel
theorem deep_t : ∀ n, n < 41 → deepOk true n = true := by decide +kernel
theorem deep_all (q : Bool) (n : Nat) (h : n ≤ 40) : deepOk q n = true := by
  cases q
  · exact deep_f n (by omega)
  · exact deep_t n (by omega)
end Go.Proofs.YtpifbpfmjmcchaaDoor
