/-
  Proved: plain facts: how reckoning by two rows goes on behind an operand, a product, a sum, an expr. Conditions: as each says.
-/
import Derived.Test.YtlgbfhjbfolibaaDoorArShift
namespace Go.Proofs.YtlgbfhjbfolibaaDoor
open Go ArMath

section
variable {vs : Vars}
theorem oper_fuel : ∀ (f g : Nat) (s : St), s.left.length < f → s.left.length < g → operF vs f s = operF vs g s
  | 0, _, s, h, _ => absurd h (by omega)
  | _ + 1, 0, s, _, h => absurd h (by omega)
  | f + 1, g + 1, s, hf, hg => by
    unfold operF
    by_cases h1 : s.tok = [45] ∨ s.tok = [33]
    · have hn : s.tok ≠ [] := by rcases h1 with h | h <;> rw [h] <;> simp
      have hlt : (leftB s.left).length < s.left.length := tok_lt hn
      rw [if_pos h1, if_pos h1]
      exact oper_fuel f g _ (by show (leftB s.left).length < f; omega) (by show (leftB s.left).length < g; omega)
    · rw [if_neg h1, if_neg h1]
      by_cases h2 : s.tok = [40]
      · have hlt : (leftB s.left).length < s.left.length := tok_lt (show s.tok ≠ [] by rw [h2]; simp)
        rw [if_pos h2, if_pos h2]
        exact oper_fuel f g _ (by show (leftB s.left).length < f; omega) (by show (leftB s.left).length < g; omega)
      · rw [if_neg h2, if_neg h2]
theorem more_fuel : ∀ (f g : Nat) (t : B) (s : St), Fuel f t s → Fuel g t s → moreF vs f t s = moreF vs g t s
  | 0, _, t, s, h, _ => absurd h.1 (by omega)
  | _ + 1, 0, t, s, _, h => absurd h.1 (by omega)
  | f + 1, g + 1, t, s, hf, hg => by
    unfold moreF
    by_cases h1 : t = [41]
    · have hn : t ≠ [] := by rw [h1]; simp
      have h3 := hf.2 hn
      have h4 := hg.2 hn
      rw [if_pos h1, if_pos h1]
      cases (s.reck 1).signs with
      | nil => rfl
      | cons a S =>
        refine more_fuel f g _ _ (Fuel.tok (by omega) ?_) (Fuel.tok (by omega) ?_) <;> show s.left.length + 1 ≤ _ <;> omega
    rw [if_neg h1, if_neg h1]
    by_cases h2 : t = []
    · rw [if_pos h2, if_pos h2]
    have h3 := hf.2 h2
    have h4 := hg.2 h2
    rw [if_neg h2, if_neg h2]
    by_cases h5 : lev t = 0
    · rw [if_pos h5, if_pos h5]
    rw [if_neg h5, if_neg h5]
    by_cases h6 : lastL (s.reck (max (lev t) 2)).signs = lev t
    · rw [if_pos h6, if_pos h6]
    rw [if_neg h6, if_neg h6]
    have e : operF vs (f + 1) ((s.reck (max (lev t) 2)).wait t (lev t)) = operF vs (g + 1) ((s.reck (max (lev t) 2)).wait t (lev t)) :=
      oper_fuel _ _ _ (by show s.left.length < _; omega) (by show s.left.length < _; omega)
    rw [e]
    cases ho : operF vs (g + 1) ((s.reck (max (lev t) 2)).wait t (lev t)) with
    | none => rfl
    | some s2 =>
      have hlt : s2.left.length < s.left.length := (oper_ok _ _ _ ho).1
      exact more_fuel f g _ _ (Fuel.tok (by omega) (by omega)) (Fuel.tok (by omega) (by omega))
end

/-- An operand, and all behind it. -/
def runM (vs : Vars) (r : B) (N : List Int) (S : List (B × Nat)) (m : Bool) : Option St := exprF vs (r.length + 2) ⟨r, N, S, m⟩
/-- All behind an operand. -/
def contM (vs : Vars) (r : B) (N : List Int) (S : List (B × Nat)) (m : Bool) : Option St := moreF vs (r.length + 2) (tokB r) ⟨leftB r, N, S, m⟩
/-- All behind an expr. -/
def clM (vs : Vars) (r : B) (N : List Int) (S : List (B × Nat)) (m : Bool) : Option St :=
  if tokB r = [41] then (match S with | [] => none | _ :: S => contM vs (leftB r) N S m)
  else if tokB r = [] then (if S = [] then some ⟨leftB r, N, S, m⟩ else none) else none
section
variable {vs : Vars} {r : B} {N : List Int} {S : List (B × Nat)} {m : Bool}
theorem expr_fuel (f g : Nat) (s : St) (hf : s.left.length < f) (hg : s.left.length < g) : exprF vs f s = exprF vs g s := by
  unfold exprF
  rw [oper_fuel f g s hf hg]
  cases ho : operF vs g s with
  | none => rfl
  | some s2 =>
    have hlt : s2.left.length < s.left.length := (oper_ok _ _ _ ho).1
    exact more_fuel f g _ _ (Fuel.tok (by omega) (by omega)) (Fuel.tok (by omega) (by omega))
theorem more_cont (f : Nat) (hf : r.length + 1 ≤ f) : moreF vs f (tokB r) ⟨leftB r, N, S, m⟩ = contM vs r N S m :=
  more_fuel f _ _ _ (Fuel.tok (s := ⟨r, N, S, m⟩) (by omega) hf) (Fuel.tok (s := ⟨r, N, S, m⟩) (by omega) (by show r.length + 1 ≤ _; omega))
theorem run_sign (h : tokB r = [45] ∨ tokB r = [33]) : runM vs r N S m = runM vs (leftB r) N ((tokB r, 4) :: S) m := by
  have hlt : (leftB r).length < r.length := tok_lt (by rcases h with h | h <;> rw [h] <;> simp)
  have e : runM vs r N S m = exprF vs (r.length + 1) ⟨leftB r, N, (tokB r, 4) :: S, m⟩ := by
    rw [runM, expr_fuel (r.length + 2) (r.length + 2) _ (by show r.length < _; omega) (by show r.length < _; omega)]
    unfold exprF
    have e1 : operF vs (r.length + 2) ⟨r, N, S, m⟩ = operF vs (r.length + 1) ⟨leftB r, N, (tokB r, 4) :: S, m⟩ := by
      conv => lhs; unfold operF
      exact if_pos h
    rw [e1]
    cases ho : operF vs (r.length + 1) ⟨leftB r, N, (tokB r, 4) :: S, m⟩ with
    | none => rfl
    | some s2 =>
      have hq : s2.left.length < (leftB r).length := (oper_ok _ _ _ ho).1
      exact more_fuel _ _ _ _ (Fuel.tok (by omega) (by omega)) (Fuel.tok (by omega) (by omega))
  rw [e]
  exact expr_fuel _ _ _ (by show (leftB r).length < _; omega) (by show (leftB r).length < _; omega)
theorem run_open (h : tokB r = [40]) : runM vs r N S m = runM vs (leftB r) N (([40], 0) :: S) m := by
  have hlt : (leftB r).length < r.length := tok_lt (by rw [h]; simp)
  have e : runM vs r N S m = exprF vs (r.length + 1) ⟨leftB r, N, ([40], 0) :: S, m⟩ := by
    rw [runM]
    unfold exprF
    have e1 : operF vs (r.length + 2) ⟨r, N, S, m⟩ = operF vs (r.length + 1) ⟨leftB r, N, ([40], 0) :: S, m⟩ := by
      conv => lhs; unfold operF
      have h1 : (⟨r, N, S, m⟩ : St).tok = [40] := h
      rw [h1, if_neg (by decide), if_pos rfl]; rfl
    rw [e1]
    cases ho : operF vs (r.length + 1) ⟨leftB r, N, ([40], 0) :: S, m⟩ with
    | none => rfl
    | some s2 =>
      have hq : s2.left.length < (leftB r).length := (oper_ok _ _ _ ho).1
      exact more_fuel _ _ _ _ (Fuel.tok (by omega) (by omega)) (Fuel.tok (by omega) (by omega))
  rw [e]
  exact expr_fuel _ _ _ (by show (leftB r).length < _; omega) (by show (leftB r).length < _; omega)
theorem run_val {v : Int × Bool} (h : operF vs (r.length + 2) ⟨r, N, S, m⟩ = some ⟨leftB r, v.1 :: N, S, m || !v.2⟩) : runM vs r N S m = contM vs (leftB r) (v.1 :: N) S (m || !v.2) := by
  rw [runM]; unfold exprF
  rw [h]
  have hle := left_le r
  exact more_cont (r := leftB r) (N := v.1 :: N) (S := S) (m := m || !v.2) (r.length + 2) (by omega)
theorem run_dig (h : digsB (tokB r) = true) : runM vs r N S m = contM vs (leftB r) ((numM (tokB r)).1 :: N) S (m || !(numM (tokB r)).2) := by
  refine run_val ?_
  unfold operF
  have h1 : (⟨r, N, S, m⟩ : St).tok = tokB r := rfl
  rw [h1]
  have n1 : ¬ (tokB r = [45] ∨ tokB r = [33]) := by rintro (e | e) <;> rw [e] at h <;> exact absurd h (by decide)
  have n2 : tokB r ≠ [40] := by intro e; rw [e] at h; exact absurd h (by decide)
  rw [if_neg n1, if_neg n2, if_pos h]; rfl
theorem run_name (hd : digsB (tokB r) = false) (h : nameB (tokB r) = true) : runM vs r N S m = contM vs (leftB r) ((envM vs (tokB r)).1 :: N) S (m || !(envM vs (tokB r)).2) := by
  refine run_val ?_
  unfold operF
  have h1 : (⟨r, N, S, m⟩ : St).tok = tokB r := rfl
  rw [h1]
  have n1 : ¬ (tokB r = [45] ∨ tokB r = [33]) := by rintro (e | e) <;> rw [e] at h <;> exact absurd h (by decide)
  have n2 : tokB r ≠ [40] := by intro e; rw [e] at h; exact absurd h (by decide)
  rw [if_neg n1, if_neg n2, if_neg (by rw [hd]; simp), if_pos h]; rfl
theorem run_none (h : NoOper vs (tokB r)) : runM vs r N S m = none := by
  rw [runM]; unfold exprF
  rw [oper_none (s := ⟨r, N, S, m⟩) h]
/-- What waits may be reckoned ahead, where all that follows would do so. -/
theorem cont_reck {N' : List Int} {S' : List (B × Nat)} {m' : Bool} (k : Nat) (hk : lev (tokB r) ≤ k ∧ 1 ≤ k ∧ (lev (tokB r) ≠ 0 → 2 ≤ k)) (h : ∀ l, 1 ≤ l → l ≤ k → reck l S N m = reck l S' N' m') : contM vs r N S m = contM vs r N' S' m' := by
  unfold contM
  have e1 : (⟨leftB r, N, S, m⟩ : St).reck 1 = (⟨leftB r, N', S', m'⟩ : St).reck 1 := by unfold St.reck; simp only; rw [h 1 (by omega) (by omega)]
  unfold moreF
  rw [e1]
  by_cases h0 : lev (tokB r) = 0
  · rw [if_pos h0, if_pos h0]
  · have e2 : (⟨leftB r, N, S, m⟩ : St).reck (max (lev (tokB r)) 2) = (⟨leftB r, N', S', m'⟩ : St).reck (max (lev (tokB r)) 2) := by
      unfold St.reck; simp only; rw [h (max (lev (tokB r)) 2) (by omega) (by have := hk.2.2 h0; omega)]
    rw [e2]
theorem cont_one {t : B} {v : Int} : contM vs r (v :: N) ((t, 4) :: S) m = contM vs r ((oneV t v).1 :: N) S (m || !(oneV t v).2) :=
  cont_reck 4 ⟨by have := lev_le (tokB r); omega, by omega, by omega⟩ fun l _ hl => reck_one hl
theorem cont_two {t : B} {k : Nat} {a b : Int} (hk : lev (tokB r) ≤ k) (h2 : 2 ≤ k) (h3 : k ≤ 3) : contM vs r (b :: a :: N) ((t, k) :: S) m = contM vs r ((twoV t a b).1 :: N) S (m || !(twoV t a b).2) :=
  cont_reck k ⟨hk, by omega, fun _ => h2⟩ fun l _ hl => reck_two hl (by omega)
theorem cont_op (h0 : lev (tokB r) ≠ 0) (hl : lastL S < lev (tokB r)) : contM vs r N S m = runM vs (leftB r) N ((tokB r, lev (tokB r)) :: S) m := by
  unfold contM
  have h1 : tokB r ≠ [41] := by intro e; rw [e] at h0; exact h0 (by decide)
  have h2 : tokB r ≠ [] := by intro e; rw [e] at h0; exact h0 (by decide)
  have hlt : (leftB r).length < r.length := tok_lt h2
  have e1 : (⟨leftB r, N, S, m⟩ : St).reck (max (lev (tokB r)) 2) = ⟨leftB r, N, S, m⟩ := by
    unfold St.reck; simp only; rw [reck_stop (by omega)]
  conv => lhs; unfold moreF
  rw [if_neg h1, if_neg h2, if_neg h0, e1, if_neg (by show lastL S ≠ _; omega)]
  have e2 : operF vs (r.length + 1 + 1) ((⟨leftB r, N, S, m⟩ : St).wait (tokB r) (lev (tokB r))) = operF vs ((leftB r).length + 2) ⟨leftB r, N, (tokB r, lev (tokB r)) :: S, m⟩ :=
    oper_fuel _ _ _ (by show (leftB r).length < _; omega) (by show (leftB r).length < _; omega)
  rw [e2, runM]; unfold exprF
  cases ho : operF vs ((leftB r).length + 2) ⟨leftB r, N, (tokB r, lev (tokB r)) :: S, m⟩ with
  | none => rfl
  | some s2 =>
    have hq : s2.left.length < (leftB r).length := (oper_ok _ _ _ ho).1
    exact more_fuel _ _ _ _ (Fuel.tok (by omega) (by omega)) (Fuel.tok (by omega) (by omega))
theorem cont_shut {N' : List Int} {S' : List (B × Nat)} {m' : Bool} (h : reck 1 S N m = (S', N', m')) (hl : lev (tokB r) = 0 ∨ (lev (tokB r) = 1 ∧ lastL S = 1)) : contM vs r N S m = clM vs r N' S' m' := by
  unfold contM clM
  have e1 : (⟨leftB r, N, S, m⟩ : St).reck 1 = ⟨leftB r, N', S', m'⟩ := by unfold St.reck; simp only; rw [h]
  unfold moreF
  rw [e1]
  by_cases h1 : tokB r = [41]
  · have hlt : (leftB r).length < r.length := tok_lt (by rw [h1]; simp)
    rw [if_pos h1, if_pos h1]
    cases S' with
    | nil => rfl
    | cons a S => exact more_cont (r := leftB r) (N := N') (S := S) (m := m') (r.length + 1) (by omega)
  rw [if_neg h1, if_neg h1]
  by_cases h2 : tokB r = []
  · rw [if_pos h2, if_pos h2]
  rw [if_neg h2, if_neg h2]
  rcases hl with h0 | ⟨h0, hS⟩
  · rw [if_pos h0]
  · rw [if_neg (by omega)]
    have e2 : (⟨leftB r, N, S, m⟩ : St).reck (max (lev (tokB r)) 2) = ⟨leftB r, N, S, m⟩ := by
      unfold St.reck; simp only; rw [reck_stop (by omega)]
    rw [e2, if_pos (by show lastL S = _; omega)]
theorem cont_shut0 (hS : lastL S = 0) (hl : lev (tokB r) = 0) : contM vs r N S m = clM vs r N S m := cont_shut (reck_stop (by omega)) (.inl hl)
theorem cont_shut1 {t : B} {a b : Int} (hS : lastL S = 0) (hl : lev (tokB r) ≤ 1) : contM vs r (b :: a :: N) ((t, 1) :: S) m = clM vs r ((twoV t a b).1 :: N) S (m || !(twoV t a b).2) :=
  cont_shut (by rw [reck_two (by omega) (by omega), reck_stop (by omega)]) (by
    by_cases h : lev (tokB r) = 0
    · exact .inl h
    · exact .inr ⟨by omega, rfl⟩)
end
end Go.Proofs.YtlgbfhjbfolibaaDoor
