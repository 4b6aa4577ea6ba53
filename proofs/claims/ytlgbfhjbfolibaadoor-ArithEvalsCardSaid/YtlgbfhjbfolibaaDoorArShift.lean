/-
  Proved: plain facts: what is reckoned is the same with blanks around; within parentheses it is the same where it is an expr. Conditions: none.
-/
import Derived.Test.YtlgbfhjbfolibaaDoorArExpr
namespace Go.Proofs.YtlgbfhjbfolibaaDoor
open Go ArMath

/-- A byte that ends every token. -/
def Halts (d : UInt8) : Prop := digC d = false ∧ morC d = false ∧ ∀ c, lev [c, d] = 0
theorem drop_halt (p : UInt8 → Bool) (d : UInt8) (z : B) (hd : p d = false) : ∀ l : B, (l ++ d :: z).dropWhile p = l.dropWhile p ++ d :: z
  | [] => by simp [hd]
  | a :: r => by
    rw [List.cons_append, List.dropWhile_cons, List.dropWhile_cons]
    split
    · exact drop_halt p d z hd r
    · rfl
theorem sign_halt (c d : UInt8) (z r : B) (hd : Halts d) : signB c (r ++ d :: z) = signB c r ++ d :: z := by
  cases r with
  | nil => show (if lev [c, d] = 0 then d :: z else z) = _; rw [if_pos (hd.2.2 c)]; rfl
  | cons e q =>
    show (if lev [c, e] = 0 then e :: (q ++ d :: z) else q ++ d :: z) = (if lev [c, e] = 0 then e :: q else q) ++ d :: z
    split <;> rfl
theorem beh_halt (d : UInt8) (z : B) (hd : Halts d) (c : UInt8) (r : B) : behB (c :: (r ++ d :: z)) = behB (c :: r) ++ d :: z := by
  rw [beh_cons, beh_cons]
  split
  · exact drop_halt _ _ _ hd.1 _
  split
  · exact drop_halt _ _ _ hd.2.1 _
  · exact sign_halt _ _ _ _ hd
theorem skip_halt (d : UInt8) (z : B) : ∀ l : B, skipB l ≠ [] → skipB (l ++ d :: z) = skipB l ++ d :: z
  | [], h => absurd rfl h
  | a :: r, h => by
    unfold skipB at h ⊢
    rw [List.cons_append, List.dropWhile_cons, List.dropWhile_cons]
    rw [List.dropWhile_cons] at h
    split
    · rename_i hb
      rw [if_pos hb] at h
      exact skip_halt d z r h
    · rfl
theorem skip_none (z : B) : ∀ l : B, skipB l = [] → skipB (l ++ z) = skipB z
  | [], _ => rfl
  | a :: r, h => by
    unfold skipB at h ⊢
    rw [List.dropWhile_cons] at h
    split at h
    · rename_i hb
      rw [List.cons_append, List.dropWhile_cons, if_pos hb]
      exact skip_none z r h
    · cases h
theorem tok_halt {d : UInt8} {z l : B} (hd : Halts d) (h : skipB l ≠ []) : tokB (l ++ d :: z) = tokB l ∧ leftB (l ++ d :: z) = leftB l ++ d :: z := by
  unfold tokB leftB
  rw [skip_halt d z l h]
  cases hk : skipB l with
  | nil => exact absurd hk h
  | cons c r =>
    rw [List.cons_append, beh_halt d z hd c r]
    have hl := beh_le (c :: r)
    refine ⟨?_, rfl⟩
    rw [← List.cons_append, List.length_append, List.length_append, show (c :: r).length + (d :: z).length - ((behB (c :: r)).length + (d :: z).length) = (c :: r).length - (behB (c :: r)).length by omega, List.take_append_of_le_length (by omega)]
theorem tok_skip {l : B} (h : tokB l ≠ []) : skipB l ≠ [] := fun e => h (by unfold tokB; rw [e]; rfl)
theorem skip_tok {l : B} (h : tokB l = []) : skipB l = [] := (tok_nil h).1

section
variable (d : UInt8) (z : B) (P : List (B × Nat))
/-- More is left, and more waits below. -/
def ArMath.St.ext (s : St) : St := { s with left := s.left ++ d :: z, signs := s.signs ++ P }
variable {d z P} (hd : Halts d) (hP : lastL P = 0)
include hP in
theorem reck_ext (l : Nat) (hl : 1 ≤ l) : ∀ (S : List (B × Nat)) (N : List Int) (b : Bool), reck l (S ++ P) N b = ((reck l S N b).1 ++ P, (reck l S N b).2)
  | [], N, b => by
    rw [List.nil_append, reck_stop (by rw [hP]; omega)]; rfl
  | (t, k) :: S, N, b => by
    rw [List.cons_append]
    unfold reck
    split
    · split
      · match N with
        | [] => rfl
        | n :: N => exact reck_ext l hl S _ _
      · match N with
        | [] => rfl
        | [n] => rfl
        | n :: m :: N => exact reck_ext l hl S _ _
    · rfl
include hP in
theorem st_reck_ext (l : Nat) (hl : 1 ≤ l) (s : St) : (s.ext d z P).reck l = (s.reck l).ext d z P := by
  unfold St.reck St.ext
  simp only
  rw [reck_ext hP l hl]
include hd in
theorem st_tok_ext (s : St) (h : s.tok ≠ []) : (s.ext d z P).tok = s.tok ∧ (s.ext d z P).next = s.next.ext d z P := by
  obtain ⟨h1, h2⟩ := tok_halt (z := z) hd (tok_skip h)
  refine ⟨h1, ?_⟩
  unfold St.next St.ext
  simp only
  rw [h2]
/-- What stands behind is no operand. -/
def NoOper (_ : Vars) (t : B) : Prop := ¬ (t = [45] ∨ t = [33]) ∧ t ≠ [40] ∧ digsB t = false ∧ nameB t = false
theorem oper_none {vs : Vars} {f : Nat} {s : St} (h : NoOper vs s.tok) : operF vs f s = none := by
  cases f with
  | zero => rfl
  | succ f =>
    unfold operF
    rw [if_neg h.1, if_neg h.2.1, if_neg (by simp [h.2.2.1]), if_neg (by simp [h.2.2.2])]
theorem nil_none (vs : Vars) : NoOper vs [] := ⟨by simp, by simp, rfl, rfl⟩
include hd in
theorem oper_ext {vs : Vars} (hz : NoOper vs (tokB (d :: z))) : ∀ (f g : Nat) (s : St), s.left.length < f → (s.ext d z P).left.length < g → operF vs g (s.ext d z P) = (operF vs f s).map (St.ext d z P)
  | 0, g, s, hf, _ => by omega
  | f + 1, 0, s, _, hg => by omega
  | f + 1, g + 1, s, hf, hg => by
    by_cases ht : s.tok = []
    · have h1 : operF vs (f + 1) s = none := oper_none (by rw [ht]; exact nil_none vs)
      have h2 : (s.ext d z P).tok = tokB (d :: z) := by
        show tokB (s.left ++ d :: z) = _
        unfold tokB
        rw [skip_none _ _ (skip_tok ht)]
      rw [h1, oper_none (by rw [h2]; exact hz)]; rfl
    · obtain ⟨e1, e2⟩ := st_tok_ext (z := z) (P := P) hd s ht
      have hlt : s.next.left.length < s.left.length := tok_lt ht
      have hlg : (s.next.ext d z P).left.length < (s.ext d z P).left.length := by
        show (s.next.left ++ d :: z).length < (s.left ++ d :: z).length
        rw [List.length_append, List.length_append]; omega
      unfold operF
      rw [e1, e2]
      split
      · exact oper_ext hz f g (s.next.wait s.tok 4) (by show s.next.left.length < f; omega) (by show (s.next.ext d z P).left.length < g; omega)
      split
      · exact oper_ext hz f g (s.next.wait s.tok 0) (by show s.next.left.length < f; omega) (by show (s.next.ext d z P).left.length < g; omega)
      split
      · rfl
      split
      · rfl
      · rfl
/-- The one comes to what the other comes to. -/
def Sim (P : List (B × Nat)) (o o' : Option St) : Prop := match o with
  | some r => ∃ r', o' = some r' ∧ r'.nums = r.nums ∧ r'.bad = r.bad
  | none => P = [] → o' = none
include hd hP in
theorem more_ext {vs : Vars} (hz : NoOper vs (tokB (d :: z))) (hend : ∀ (g : Nat) (s : St), s.tok = [] → (s.ext d z P).left.length + 2 ≤ g → Sim P (if (s.next.reck 1).signs = [] then some (s.next.reck 1) else none) (moreF vs g (s.ext d z P).tok (s.ext d z P).next)) :
    ∀ (f g : Nat) (s : St), s.left.length + 1 ≤ f → (s.ext d z P).left.length + 2 ≤ g → Sim P (moreF vs f s.tok s.next) (moreF vs g (s.ext d z P).tok (s.ext d z P).next)
  | 0, g, s, hf, _ => by omega
  | f + 1, 0, s, _, hg => by omega
  | f + 1, g + 1, s, hf, hg => by
    by_cases ht : s.tok = []
    · have h := hend (g + 1) s ht hg
      have e : moreF vs (f + 1) s.tok s.next = if (s.next.reck 1).signs = [] then some (s.next.reck 1) else none := by
        unfold moreF
        rw [ht, if_neg (by simp), if_pos rfl]
      rw [e]
      exact h
    · obtain ⟨e1, e2⟩ := st_tok_ext (z := z) (P := P) hd s ht
      have hlt : s.next.left.length < s.left.length := tok_lt ht
      have hlg : ∀ s' : St, s'.left.length ≤ s.next.left.length → (s'.ext d z P).left.length + 2 ≤ g := fun s' h => by
        have : (s'.left ++ d :: z).length + 1 ≤ (s.left ++ d :: z).length := by rw [List.length_append, List.length_append]; omega
        have h2 : (s.left ++ d :: z).length + 2 ≤ g + 1 := hg
        show (s'.left ++ d :: z).length + 2 ≤ g
        omega
      rw [e1, e2]
      unfold moreF
      rw [st_reck_ext hP 1 (by decide)]
      have hmx : 1 ≤ max (lev s.tok) 2 := by omega
      rw [st_reck_ext hP _ hmx]
      have hE : ∀ u : St, (u.ext d z P).signs = u.signs ++ P := fun _ => rfl
      by_cases h1 : s.tok = [41]
      · rw [if_pos h1, if_pos h1, hE]
        cases hS : (s.next.reck 1).signs with
        | nil =>
          simp only [List.nil_append]
          intro hp
          rw [hp]
        | cons x S =>
          simp only [List.cons_append]
          have hl5 : ({ s.next.reck 1 with signs := S } : St).left.length ≤ s.next.left.length := Nat.le_refl _
          exact more_ext hz hend f g { s.next.reck 1 with signs := S } (by omega) (hlg _ hl5)
      rw [if_neg h1, if_neg h1, if_neg ht, if_neg ht]
      by_cases h0 : lev s.tok = 0
      · rw [if_pos h0, if_pos h0]; exact fun _ => rfl
      have hlast : lastL ((s.next.reck (max (lev s.tok) 2)).ext d z P).signs = lastL (s.next.reck (max (lev s.tok) 2)).signs := by
        rw [hE]
        cases hS : (s.next.reck (max (lev s.tok) 2)).signs with
        | nil => rw [List.nil_append, hP]; rfl
        | cons x S => rfl
      rw [if_neg h0, if_neg h0, hlast]
      by_cases h6 : lastL (s.next.reck (max (lev s.tok) 2)).signs = lev s.tok
      · rw [if_pos h6, if_pos h6]; exact fun _ => rfl
      rw [if_neg h6, if_neg h6]
      have hw : ((s.next.reck (max (lev s.tok) 2)).ext d z P).wait s.tok (lev s.tok) = ((s.next.reck (max (lev s.tok) 2)).wait s.tok (lev s.tok)).ext d z P := rfl
      rw [hw, oper_ext hd hz (f + 1) (g + 1) ((s.next.reck (max (lev s.tok) 2)).wait s.tok (lev s.tok)) (by show s.next.left.length < f + 1; omega) (by have := hlg s.next (Nat.le_refl _); show (s.next.left ++ d :: z).length < g + 1; have h3 : (s.next.ext d z P).left.length = (s.next.left ++ d :: z).length := rfl; omega)]
      cases ho : operF vs (f + 1) ((s.next.reck (max (lev s.tok) 2)).wait s.tok (lev s.tok)) with
      | none => exact fun _ => rfl
      | some s2 =>
        obtain ⟨q1, -, -, -⟩ := oper_ok _ _ _ ho
        have q2 : s2.left.length < s.next.left.length := q1
        exact more_ext hz hend f g s2 (by omega) (hlg _ (by omega))
end
end Go.Proofs.YtlgbfhjbfolibaaDoor
