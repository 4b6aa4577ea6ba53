/-
  Proved: what is reckoned is the same with blanks around; within parentheses it is the same where it is an expr. Conditions: none.
-/
import Derived.Test.YtlgbfhjbfolibaaDoorArShift
namespace Go.Proofs.YtlgbfhjbfolibaaDoor
open Go ArMath

theorem halts_blank : Halts 32 := ⟨by decide, by decide, fun c => by simp [lev]⟩
theorem halts_shut : Halts 41 := ⟨by decide, by decide, fun c => by simp [lev]⟩
theorem sim_out {o o' : Option St} (h : Sim [] o o') : outM o' = outM o := by
  cases o with
  | none => rw [h rfl]
  | some r =>
    obtain ⟨r', rfl, h1, h2⟩ := h
    show (if r'.bad then ((0 : Int), (6 : Int)) else (r'.nums.headD 0, 0)) = (if r.bad then (0, 6) else (r.nums.headD 0, 0))
    rw [h1, h2]
theorem sim_some {P : List (B × Nat)} {o o' : Option St} (h : Sim P o o') (ho : (outM o).2 ≠ 2) : outM o' = outM o := by
  cases o with
  | none => exact absurd rfl ho
  | some r =>
    obtain ⟨r', rfl, h1, h2⟩ := h
    show (if r'.bad then ((0 : Int), (6 : Int)) else (r'.nums.headD 0, 0)) = (if r.bad then (0, 6) else (r.nums.headD 0, 0))
    rw [h1, h2]
theorem skip_blank (l : B) (h : skipB l = []) : tokB (l ++ [32, 10]) = [] ∧ leftB (l ++ [32, 10]) = [] := by
  have : skipB (l ++ [32, 10]) = [] := by rw [skip_none _ _ h]; decide
  exact ⟨by unfold tokB; rw [this]; rfl, by unfold leftB; rw [this]; rfl⟩
theorem eval_blank (vs : Vars) (l : B) : evalM vs (32 :: 9 :: (l ++ [32, 10])) = evalM vs l := by
  have hz : NoOper vs (tokB [32, 10]) := by rw [show tokB [32, 10] = [] by decide]; exact nil_none vs
  have hsm : Sim [] (exprF vs (l.length + 2) ⟨l, [], [], false⟩) (exprF vs ((32 :: 9 :: (l ++ [32, 10])).length + 2) ⟨32 :: 9 :: (l ++ [32, 10]), [], [], false⟩) := by
    have e0 : exprF vs ((32 :: 9 :: (l ++ [32, 10])).length + 2) ⟨32 :: 9 :: (l ++ [32, 10]), [], [], false⟩ = exprF vs (l.length + 6) ((⟨l, [], [], false⟩ : St).ext 32 [10] []) := by
      rw [show (32 :: 9 :: (l ++ [32, 10])).length + 2 = l.length + 6 by simp]
      rfl
    rw [e0]
    unfold exprF
    rw [oper_ext halts_blank hz (l.length + 2) (l.length + 6) ⟨l, [], [], false⟩ (by show l.length < _; omega) (by show (l ++ [32, 10]).length < _; simp)]
    cases ho : operF vs (l.length + 2) ⟨l, [], [], false⟩ with
    | none => exact fun _ => rfl
    | some s2 =>
      obtain ⟨q1, -, -, -⟩ := oper_ok _ _ _ ho
      have q2 : s2.left.length < l.length := q1
      refine more_ext halts_blank rfl hz ?_ (l.length + 2) (l.length + 6) s2 (by omega) (by show (s2.left ++ [32, 10]).length + 2 ≤ _; simp; omega)
      intro g s hs hg
      obtain ⟨t1, t2⟩ := skip_blank s.left (skip_tok hs)
      obtain ⟨g', rfl⟩ : ∃ g', g = g' + 1 := ⟨g - 1, by omega⟩
      have e1 : (s.ext 32 [10] []).tok = [] := t1
      have e2 : (s.ext 32 [10] []).next = s.next := by
        unfold St.next St.ext
        simp only [List.append_nil]
        rw [t2, (tok_nil hs).2]
      rw [e1, e2]
      have e3 : moreF vs (g' + 1) [] s.next = if (s.next.reck 1).signs = [] then some (s.next.reck 1) else none := by
        unfold moreF
        rw [if_neg (by simp), if_pos rfl]
      rw [e3]
      split
      · exact ⟨_, rfl, rfl, rfl⟩
      · exact fun _ => rfl
  exact sim_out hsm
theorem skip_shut (l : B) (h : skipB l = []) : tokB (l ++ [41]) = [41] ∧ leftB (l ++ [41]) = [] := by
  have : skipB (l ++ [41]) = [41] := by rw [skip_none _ _ h]; decide
  exact ⟨by unfold tokB; rw [this]; decide, by unfold leftB; rw [this]; decide⟩
theorem open_tok (x : B) : tokB (40 :: x) = [40] ∧ leftB (40 :: x) = x := by
  have h1 : skipB (40 :: x) = 40 :: x := by unfold skipB; rw [List.dropWhile_cons, if_neg (by decide)]
  have h2 : behB (40 :: x) = x := by
    rw [beh_cons, if_neg (by decide), if_neg (by decide)]
    cases x with
    | nil => rfl
    | cons e q => show (if lev [40, e] = 0 then e :: q else q) = _; rw [if_pos (by simp [lev])]
  refine ⟨?_, ?_⟩
  · unfold tokB
    rw [h1, h2, List.length_cons, show x.length + 1 - x.length = 1 by omega]; rfl
  · unfold leftB
    rw [h1, h2]
theorem eval_paren (vs : Vars) (l : B) (h : (evalM vs l).2 ≠ 2) : evalM vs (40 :: (l ++ [41])) = evalM vs l := by
  have hz : NoOper vs (tokB [41]) := by rw [show tokB [41] = [41] by decide]; exact ⟨by decide, by decide, rfl, rfl⟩
  have hsm : Sim [([40], 0)] (exprF vs (l.length + 2) ⟨l, [], [], false⟩) (exprF vs ((40 :: (l ++ [41])).length + 2) ⟨40 :: (l ++ [41]), [], [], false⟩) := by
    rw [show (40 :: (l ++ [41])).length + 2 = l.length + 3 + 1 by simp]
    obtain ⟨o1, o2⟩ := open_tok (l ++ [41])
    have e0 : operF vs (l.length + 3 + 1) ⟨40 :: (l ++ [41]), [], [], false⟩ = operF vs (l.length + 3) ((⟨l, [], [], false⟩ : St).ext 41 [] [([40], 0)]) := by
      conv => lhs; unfold operF
      have t1 : (⟨40 :: (l ++ [41]), [], [], false⟩ : St).tok = [40] := o1
      have t2 : (⟨40 :: (l ++ [41]), [], [], false⟩ : St).next = ⟨l ++ [41], [], [], false⟩ := by unfold St.next; rw [o2]
      rw [t1, t2, if_neg (by decide), if_pos rfl]
      rfl
    unfold exprF
    rw [e0, oper_ext halts_shut hz (l.length + 2) (l.length + 3) ⟨l, [], [], false⟩ (by show l.length < _; omega) (by show (l ++ [41]).length < _; simp)]
    cases ho : operF vs (l.length + 2) ⟨l, [], [], false⟩ with
    | none => exact fun _ => rfl
    | some s2 =>
      obtain ⟨q1, -, -, -⟩ := oper_ok _ _ _ ho
      have q2 : s2.left.length < l.length := q1
      refine more_ext halts_shut rfl hz ?_ (l.length + 2) (l.length + 3 + 1) s2 (by omega) (by show (s2.left ++ [41]).length + 2 ≤ _; simp; omega)
      intro g s hs hg
      obtain ⟨t1, t2⟩ := skip_shut s.left (skip_tok hs)
      obtain ⟨g', rfl⟩ : ∃ g', g = g' + 2 := ⟨g - 2, by omega⟩
      have e1 : (s.ext 41 [] [([40], 0)]).tok = [41] := t1
      have e2 : (s.ext 41 [] [([40], 0)]).next = ⟨[], s.nums, s.signs ++ [([40], 0)], s.bad⟩ := by
        unfold St.next St.ext
        simp only
        rw [t2]
      rw [e1, e2]
      have hn : (s.next.reck 1) = ⟨leftB s.left, (reck 1 s.signs s.nums s.bad).2.1, (reck 1 s.signs s.nums s.bad).1, (reck 1 s.signs s.nums s.bad).2.2⟩ := rfl
      have hx : (⟨[], s.nums, s.signs ++ [([40], 0)], s.bad⟩ : St).reck 1 = ⟨[], (reck 1 s.signs s.nums s.bad).2.1, (reck 1 s.signs s.nums s.bad).1 ++ [([40], 0)], (reck 1 s.signs s.nums s.bad).2.2⟩ := by
        unfold St.reck
        simp only
        rw [reck_ext (P := [([40], 0)]) rfl 1 (by decide)]
      rw [hn]
      split
      · rename_i h0
        simp only at h0
        have e3 : moreF vs (g' + 2) [41] ⟨[], s.nums, s.signs ++ [([40], 0)], s.bad⟩ = some ⟨[], (reck 1 s.signs s.nums s.bad).2.1, [], (reck 1 s.signs s.nums s.bad).2.2⟩ := by
          unfold moreF
          rw [if_pos rfl, hx, h0]
          simp only [List.nil_append]
          have t3 : ∀ N b, (⟨[], N, [], b⟩ : St).tok = [] := fun _ _ => rfl
          have t4 : ∀ N b, (⟨[], N, [], b⟩ : St).next = ⟨[], N, [], b⟩ := fun _ _ => rfl
          rw [t3, t4]
          unfold moreF
          rw [if_neg (by simp), if_pos rfl]
          rfl
        rw [e3]
        exact ⟨_, rfl, rfl, rfl⟩
      · exact fun h => by cases h
  exact sim_some hsm h
end Go.Proofs.YtlgbfhjbfolibaaDoor
