/-
  Proved: plain facts on fields: which are without letters, which have a blank. Conditions: as each says.
-/
import Derived.Test.YtfepkhlifpbkfaaDoorSpMath
namespace Go.Proofs.YtfepkhlifpbkfaaDoor.SpMath
open GlyphMath GlMath

/-- Letters of it are neither quoted nor split. -/
def hardR (x : Rn) : Bool := !x.q && !x.s && !x.b
structure OkF (Q H : Bool) (f : Fld) : Prop where
  a : ∀ x ∈ f.ended, x = [] → Q = true
  b : f.begun = true → f.last = [] → Q = true
  c : ∀ x ∈ f.ended, ∀ y ∈ x, y.2 = false → H = false → blankR y.1 = false
  d : ∀ y ∈ f.last, y.2 = false → H = false → blankR y.1 = false
section
variable {Q H : Bool} {f : Fld}
theorem OkF.fin (h : OkF Q H f) : OkF Q H f.fin := by
  unfold Fld.fin
  split
  · rename_i hb
    refine ⟨fun x hx e => ?_, fun e => (by cases e), fun x hx y hy => ?_, fun y hy => (by cases hy)⟩
    · rcases List.mem_append.1 hx with hx | hx
      · exact h.a x hx e
      · rw [List.mem_singleton.1 hx] at e
        exact h.b hb e
    · rcases List.mem_append.1 hx with hx | hx
      · exact h.c x hx y hy
      · rw [List.mem_singleton.1 hx] at hy
        exact h.d y hy
  · exact h
theorem OkF.put (h : OkF Q H f) {q s : Bool} (r : Nat) (hh : q = false → s = false → H = true) : OkF Q H (f.put q s r) := by
  unfold Fld.put
  split
  · exact h.fin
  · rename_i hc
    refine ⟨h.a, fun _ e => (by simp at e), h.c, fun y hy e1 e2 => ?_⟩
    rcases List.mem_append.1 hy with hy | hy
    · exact h.d y hy e1 e2
    · rw [List.mem_singleton.1 hy] at e1 ⊢
      simp only at e1 ⊢
      subst e1
      cases s with
      | false => rw [hh rfl rfl] at e2; cases e2
      | true =>
        cases hb : blankR (r : Int) with
        | false => rfl
        | true => rw [hb] at hc; exact absurd rfl hc
theorem OkF.puts {q s : Bool} (hh : q = false → s = false → H = true) : ∀ (l : List Nat) {f : Fld}, OkF Q H f → OkF Q H (f.puts q s l)
  | [], _, h => h
  | r :: l, _, h => OkF.puts hh l (h.put r hh)
theorem OkF.opens (h : OkF Q H f) {q : Bool} (hq : q = true → Q = true) : OkF Q H (f.opens q) := by
  refine ⟨h.a, fun e1 e2 => ?_, h.c, h.d⟩
  have e1 : (f.begun || q) = true := e1
  rcases Bool.or_eq_true_iff.1 e1 with e | e
  · exact h.b e e2
  · exact hq e
theorem OkF.add (h : OkF Q H f) (x : Rn) (hq : x.q = true → Q = true) (hh : hardR x = true → H = true) : OkF Q H (f.add x) := by
  unfold Fld.add
  split
  · exact h.fin
  · rename_i hb
    refine OkF.puts (fun e1 e2 => hh ?_) _ (h.opens hq)
    unfold hardR
    rw [e1, e2]
    simpa using hb
theorem OkF.adds : ∀ (l : List Rn) {f : Fld}, OkF Q H f → (∀ x ∈ l, (x.q = true → Q = true) ∧ (hardR x = true → H = true)) → OkF Q H (l.foldl Fld.add f)
  | [], _, h, _ => h
  | x :: l, _, h, hx => OkF.adds l (h.add x (hx x List.mem_cons_self).1 (hx x List.mem_cons_self).2) (fun y hy => hx y (List.mem_cons_of_mem _ hy))
end
theorem fields_ok (l : List Rn) (x : List Ch) (hx : x ∈ fieldsM l) : (x = [] → l.any (·.q) = true) ∧ ∀ y ∈ x, y.2 = false → l.any hardR = false → blankR y.1 = false := by
  have h0 : OkF (l.any (·.q)) (l.any hardR) fd0 := ⟨fun x hx => (by cases hx), fun e => (by cases e), fun x hx => (by cases hx), fun y hy => (by cases hy)⟩
  have h := (OkF.adds l h0 fun x hx => ⟨fun e => List.any_eq_true.2 ⟨x, hx, e⟩, fun e => List.any_eq_true.2 ⟨x, hx, e⟩⟩).fin
  exact ⟨h.a x hx, h.c x hx⟩
/-- How many bytes. -/
def totR (l : List Rn) : Nat := (l.map fun x => x.text.size).sum
theorem totR_take (l : List Rn) (k : Nat) (x : Rn) (h : l[k]? = some x) : totR (l.take (k + 1)) = totR (l.take k) + x.text.size := by
  unfold totR
  rw [List.take_add_one, h]
  simp
theorem any_take (p : Rn → Bool) (l : List Rn) (k : Nat) (x : Rn) (h : l[k]? = some x) : (l.take (k + 1)).any p = ((l.take k).any p || p x) := by
  rw [List.take_add_one, h]
  simp
theorem totR_le : ∀ (l : List Rn) (x : Rn), x ∈ l → x.text.size ≤ totR l
  | y :: l, x, h => by
    have e : totR (y :: l) = y.text.size + totR l := by simp [totR]
    rcases List.mem_cons.1 h with rfl | h
    · omega
    · have := totR_le l x h; omega
end Go.Proofs.YtfepkhlifpbkfaaDoor.SpMath
