/-
  Proved: plain facts on what follows an operand, a product, a sum; the statements' own unary whole. Conditions: as each says.
-/
import Derived.Test.YtlgbfhjbfolibaaDoorArURest
namespace Go.Proofs.YtlgbfhjbfolibaaDoor
open Go Go.RowKit ArMath GlyphMath

section
variable {w : World} {X : Nat} {l : B} {vv : Value} {vs : Vars} {n : Nat}
theorem unary_any (hl : l.length ≤ 2147483648) (hU : UAt vs l vv X n) (hE : EAt vs l vv X n) : UAt vs l vv X (n + 1) := by
  intro w r f m hn he h
  cases f with
  | true => exact unary_rest hl he h (fun e => by cases e)
  | false =>
    cases hk : skipB r with
    | nil => exact unary_rest hl he h (fun _ c q e => by rw [hk] at e; cases e)
    | cons c q =>
      by_cases h1 : c = 45
      · subst h1; exact unary_neg hU hl hn he h hk
      by_cases h2 : c = 33
      · subst h2; exact unary_not hU hl hn he h hk
      by_cases h3 : c = 40
      · subst h3; exact unary_open hE hl hn he h hk
      by_cases h4 : digC c = true
      · exact unary_dig hl h hk h4
      · refine unary_rest hl he h (fun _ c' q' e => ?_)
        rw [hk] at e
        cases e
        exact ⟨by simpa using h4, h1, h2, h3⟩
end
section
variable {vs : Vars} {r p q r2 : B} {a b : Int} {N : List Int} {S : List (B × Nat)} {m m2 : Bool} {c : UInt8}
theorem tok_skip_skip (p : B) : tokB (skipB p) = tokB p ∧ leftB (skipB p) = leftB p := by
  unfold tokB leftB
  rw [skip_skip]
  exact ⟨rfl, rfl⟩
theorem cont_skip : contM vs (skipB p) N S m = contM vs p N S m := by
  have h := more_cont (vs := vs) (r := skipB p) (N := N) (S := S) (m := m) (p.length + 2) (by have := skip_len p; omega)
  rw [← h, (tok_skip_skip p).1, (tok_skip_skip p).2]
  rfl
/-- A sign of one letter, that none of two letters begins with. -/
def OneS (c : UInt8) : Prop := digC c = false ∧ firC c = false ∧ ∀ d, lev [c, d] = 0
theorem op_tok (hK : skipB p = c :: q) (hc : OneS c) : tokB p = [c] ∧ leftB p = q := tok_one hK (beh_sign hc.1 hc.2.1 fun d _ => hc.2.2 d)
theorem one_mul : OneS 42 := ⟨by decide, by decide, fun d => by simp [lev]⟩
theorem one_quo : OneS 47 := ⟨by decide, by decide, fun d => by simp [lev]⟩
theorem one_rem : OneS 37 := ⟨by decide, by decide, fun d => by simp [lev]⟩
theorem one_add : OneS 43 := ⟨by decide, by decide, fun d => by simp [lev]⟩
theorem one_sub : OneS 45 := ⟨by decide, by decide, fun d => by simp [lev]⟩
theorem step_ok {k : Nat} (hK : skipB p = c :: q) (hc : OneS c) (hk : lev [c] = k) (h2 : 2 ≤ k) (hS : lastL S < k) (hr : lev (tokB r2) ≤ k)
    (h : runM vs q (a :: N) (([c], k) :: S) m = contM vs r2 (b :: a :: N) (([c], k) :: S) m2) : contM vs p (a :: N) S m = contM vs r2 ((twoV [c] a b).1 :: N) S (m2 || !(twoV [c] a b).2) := by
  obtain ⟨h1, h3⟩ := op_tok hK hc
  have hk3 : k ≤ 3 := by have := lev_le [c]; omega
  rw [cont_op (by rw [h1, hk]; omega) (by rw [h1, hk]; exact hS), h1, h3, hk, h]
  exact cont_two hr h2 hk3
theorem step_no {k : Nat} (hK : skipB p = c :: q) (hc : OneS c) (hk : lev [c] = k) (h2 : 2 ≤ k) (hS : lastL S < k)
    (h : runM vs q (a :: N) (([c], k) :: S) m = none) : contM vs p (a :: N) S m = none := by
  obtain ⟨h1, h3⟩ := op_tok hK hc
  rw [cont_op (by rw [h1, hk]; omega) (by rw [h1, hk]; exact hS), h1, h3, hk, h]
theorem tok_pre (p : B) : tokB p <+: skipB p := by unfold tokB; exact List.take_prefix _ _
theorem pre_of {t p : B} (h : tokB p = t) : t.isPrefixOf (skipB p) = true := by
  rw [List.isPrefixOf_iff_prefix, ← h]
  exact tok_pre p
theorem lev3 {t : B} (h : lev t = 3) : t = [42] ∨ t = [47] ∨ t = [37] := by
  unfold lev at h
  split at h
  · omega
  split at h
  · omega
  split at h
  · assumption
  · omega
theorem lev2 {t : B} (h : lev t = 2) : t = [43] ∨ t = [45] := by
  unfold lev at h
  split at h
  · omega
  split at h
  · assumption
  split at h <;> omega
theorem lev1 {t : B} (h : lev t = 1) : t = [60] ∨ t = [60, 61] ∨ t = [62] ∨ t = [62, 61] ∨ t = [61, 61] ∨ t = [33, 61] := by
  unfold lev at h
  split at h
  · assumption
  split at h
  · omega
  split at h <;> omega
theorem no3 (h1 : [42].isPrefixOf (skipB p) = false) (h2 : [47].isPrefixOf (skipB p) = false) (h3 : [37].isPrefixOf (skipB p) = false) : lev (tokB p) ≤ 2 := by
  have := lev_le (tokB p)
  by_cases h : lev (tokB p) = 3
  · rcases lev3 h with e | e | e
    · rw [pre_of e] at h1; cases h1
    · rw [pre_of e] at h2; cases h2
    · rw [pre_of e] at h3; cases h3
  · omega
theorem no2 (h : lev (tokB p) ≤ 2) (h1 : [43].isPrefixOf (skipB p) = false) (h2 : [45].isPrefixOf (skipB p) = false) : lev (tokB p) ≤ 1 := by
  by_cases h : lev (tokB p) = 2
  · rcases lev2 h with e | e
    · rw [pre_of e] at h1; cases h1
    · rw [pre_of e] at h2; cases h2
  · omega
end
end Go.Proofs.YtlgbfhjbfolibaaDoor
