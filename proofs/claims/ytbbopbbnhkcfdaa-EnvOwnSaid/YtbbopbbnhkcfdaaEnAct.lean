/-
  Proved: how a script of the law lies in memory; what an act makes of an Env. Conditions: as each says.
-/
import Derived.Test.YtbbopbbnhkcfdaaEnKnown
import Derived.Test.YtbbopbbnhkcfdaaEnUnset
import Derived.Test.YtbbopbbnhkcfdaaEnDefine
import Derived.Test.YtbbopbbnhkcfdaaEnIs
import Derived.Test.YtbbopbbnhkcfdaaEnRIs
import Derived.Test.YtbbopbbnhkcfdaaEnGetF
import Derived.Test.YtbbopbbnhkcfdaaEnRGetV
import Derived.Test.YtbbopbbnhkcfdaaEnRGetF
import Derived.Test.YtbbopbbnhkcfdaaEnRArg
import Derived.Test.YtbbopbbnhkcfdaaEnRSame
import Derived.Test.YtbbopbbnhkcfdaaEnRSet
import Derived.Test.YtbbopbbnhkcfdaaEnRDefine
namespace Go.Proofs.Ytbbopbbnhkcfdaa
open Go Go.RowKit EnMath

structure Ac where
  kind : Int
  name : ByteArray
  value : ByteArray
  n : Int
def aC (a : Ac) : List Value := [.int .i64 a.kind, .string a.name, .string a.value, .int .i64 a.n]
theorem aE : Enc 4 aC := ⟨fun _ => rfl, fun x u hu => by simp [aC] at hu; rcases hu with rfl | rfl | rfl | rfl <;> rfl, by decide⟩
def stepM (E : Ev) (a : Ac) : Ev := if a.kind = 1 then { E with vars := setM E.vars a.name a.value } else if a.kind = 2 then { E with vars := delM E.vars a.name } else if a.kind = 3 then { E with funs := setM E.funs a.name a.n } else E
/-- So far, so many entries. -/
structure Fine (E : Ev) (k : Nat) : Prop where
  vars : Ordd E.vars
  funs : Ordd E.funs
  lv : E.vars.length ≤ 30 + k
  lf : E.funs.length ≤ 30 + k
  la : E.args.length * 16 ≤ 140737488355328
theorem Fine.fit {E : Ev} {k : Nat} (h : Fine E k) (hk : k ≤ 100) : Fit E := ⟨by have := h.lv; omega, by have := h.lf; omega, h.la⟩
theorem Fine.step {E : Ev} {k : Nat} (h : Fine E k) (a : Ac) : Fine (stepM E a) (k + 1) := by
  have h1 := set_len E.vars a.name a.value
  have h2 := del_len E.vars a.name
  have h3 := set_len E.funs a.name a.n
  have h4 := h.lv
  have h5 := h.lf
  unfold stepM
  split
  · exact ⟨ord_set h.vars, h.funs, by dsimp only; omega, by dsimp only; omega, h.la⟩
  · split
    · exact ⟨ord_del h.vars, h.funs, by dsimp only; omega, by dsimp only; omega, h.la⟩
    · split
      · exact ⟨h.vars, ord_set h.funs, by dsimp only; omega, by dsimp only; omega, h.la⟩
      · exact ⟨h.vars, h.funs, by omega, by omega, h.la⟩
/-- An Env in a variable. -/
def Vr (w : World) (X : Nat) (E : Ev) : Prop := ∃ p1 n1 c1 p2 n2 c2 p3 n3 c3, w.heap[X]? = some (.cells #[.slice p1 n1 c1, .slice p2 n2 c2, .slice p3 n3 c3] 26 (0, 0)) ∧ EnvAt w (.agg #[.slice p1 n1 c1, .slice p2 n2 c2, .slice p3 n3 c3]) E
theorem Vr.lt {w : World} {X : Nat} {E : Ev} (h : Vr w X E) : X < w.heap.size := by
  obtain ⟨p1, n1, c1, p2, n2, c2, p3, n3, c3, h1, -⟩ := h
  exact (Array.getElem?_eq_some_iff.1 h1).1
theorem Vr.below {w w' : World} {X : Nat} {E : Ev} (h : Vr w X E) (hb : Below w.heap.size w w') : Vr w' X E := by
  obtain ⟨p1, n1, c1, p2, n2, c2, p3, n3, c3, h1, h2⟩ := h
  exact ⟨p1, n1, c1, p2, n2, c2, p3, n3, c3, (hb.block X (Array.getElem?_eq_some_iff.1 h1).1).trans h1, h2.below hb (Nat.le_refl _)⟩
theorem Vr.new {w : World} {X : Nat} {p1 p2 p3 : Option Addr} {n1 n2 n3 c1 c2 c3 : Nat} {E : Ev} (h : EnvAt w (.agg #[.slice p1 n1 c1, .slice p2 n2 c2, .slice p3 n3 c3]) E) (hX : X = w.heap.size) : Vr (w.alloc (.cells #[.slice p1 n1 c1, .slice p2 n2 c2, .slice p3 n3 c3] 26)) X E := by
  subst hX
  exact ⟨p1, n1, c1, p2, n2, c2, p3, n3, c3, heap_alloc_new w _, h.below ((Below.refl _ w).alloc (Nat.le_refl _) _) (Nat.le_refl _)⟩
theorem Vr.put {w : World} {X : Nat} {E E' : Ev} (h : Vr w X E) {p1 p2 p3 : Option Addr} {n1 n2 n3 c1 c2 c3 : Nat} (he : EnvAt w (.agg #[.slice p1 n1 c1, .slice p2 n2 c2, .slice p3 n3 c3]) E') :
    Vr (((w.setCell ⟨X, 0, none⟩ (.slice p1 n1 c1)).setCell ⟨X, 1, none⟩ (.slice p2 n2 c2)).setCell ⟨X, 2, none⟩ (.slice p3 n3 c3)) X E' := by
  obtain ⟨q1, m1, d1, q2, m2, d2, q3, m3, d3, h1, -⟩ := h
  exact ⟨p1, n1, c1, p2, n2, c2, p3, n3, c3, env_put h1, he.put h1 _ _ _⟩
theorem Vr.far {w : World} {X Y : Nat} {E E' : Ev} (h : Vr w X E) (h' : Vr w Y E') (hne : X ≠ Y) (a b c : Value) :
    Vr (((w.setCell ⟨X, 0, none⟩ a).setCell ⟨X, 1, none⟩ b).setCell ⟨X, 2, none⟩ c) Y E' := by
  obtain ⟨q1, m1, d1, q2, m2, d2, q3, m3, d3, h1, -⟩ := h
  obtain ⟨p1, n1, c1, p2, n2, c2, p3, n3, c3, h3, h4⟩ := h'
  refine ⟨p1, n1, c1, p2, n2, c2, p3, n3, c3, ?_, h4.put h1 _ _ _⟩
  rw [Below.heap_setCell _ _ _ _ (Ne.symm hne), Below.heap_setCell _ _ _ _ (Ne.symm hne), Below.heap_setCell _ _ _ _ (Ne.symm hne)]
  exact h3
/-- What a variable's cells are. -/
theorem Vr.cells {w : World} {X : Nat} {E : Ev} (h : Vr w X E) : ∃ p1 n1 c1 p2 n2 c2 p3 n3 c3, (w.cell? ⟨X, 0, none⟩ = some (.slice p1 n1 c1) ∧ w.cell? ⟨X, 1, none⟩ = some (.slice p2 n2 c2) ∧ w.cell? ⟨X, 2, none⟩ = some (.slice p3 n3 c3)) ∧ (w.frozen? ⟨X, 0, none⟩ = false ∧ w.frozen? ⟨X, 1, none⟩ = false ∧ w.frozen? ⟨X, 2, none⟩ = false) ∧ EnvAt w (.agg #[.slice p1 n1 c1, .slice p2 n2 c2, .slice p3 n3 c3]) E := by
  obtain ⟨p1, n1, c1, p2, n2, c2, p3, n3, c3, h1, h2⟩ := h
  exact ⟨p1, n1, c1, p2, n2, c2, p3, n3, c3, ⟨cell_of_row _ _ 0 _ _ _ h1, cell_of_row _ _ 1 _ _ _ h1, cell_of_row _ _ 2 _ _ _ h1⟩, ⟨frozen_of_row _ _ 0 _ _ h1, frozen_of_row _ _ 1 _ _ h1, frozen_of_row _ _ 2 _ _ h1⟩, h2⟩
theorem EnvAt.bare {w : World} {v : Value} {E : Ev} (h : EnvAt w v E) : ∃ p1 n1 c1 p2 n2 c2 p3 n3 c3, v = .agg #[.slice p1 n1 c1, .slice p2 n2 c2, .slice p3 n3 c3] := by
  obtain ⟨p1, c1, p2, c2, p3, c3, rfl, -⟩ := h.shape
  exact ⟨_, _, _, _, _, _, _, _, _, rfl⟩
/-- An act in a variable. -/
def AcAt (w : World) (X : Nat) (a : Ac) : Prop := w.heap[X]? = some (.cells #[.int .i64 a.kind, .string a.name, .string a.value, .int .i64 a.n] 31 (0, 0))
theorem AcAt.lt {w : World} {X : Nat} {a : Ac} (h : AcAt w X a) : X < w.heap.size := (Array.getElem?_eq_some_iff.1 h).1
theorem AcAt.below {w w' : World} {X : Nat} {a : Ac} (h : AcAt w X a) (hb : Below w.heap.size w w') : AcAt w' X a := (hb.block X h.lt).trans h
theorem AcAt.far {w : World} {X Y : Nat} {a : Ac} (h : AcAt w X a) (hne : X ≠ Y) (x y z : Value) : AcAt (((w.setCell ⟨Y, 0, none⟩ x).setCell ⟨Y, 1, none⟩ y).setCell ⟨Y, 2, none⟩ z) X a := by
  unfold AcAt
  rw [Below.heap_setCell _ _ _ _ hne, Below.heap_setCell _ _ _ _ hne, Below.heap_setCell _ _ _ _ hne]
  exact h
theorem AcAt.cells {w : World} {X : Nat} {a : Ac} (h : AcAt w X a) : w.cell? ⟨X, 0, none⟩ = some (.int .i64 a.kind) ∧ w.cell? ⟨X, 1, none⟩ = some (.string a.name) ∧ w.cell? ⟨X, 2, none⟩ = some (.string a.value) ∧ w.cell? ⟨X, 3, none⟩ = some (.int .i64 a.n) :=
  ⟨cell_of_row _ _ 0 _ _ _ h, cell_of_row _ _ 1 _ _ _ h, cell_of_row _ _ 2 _ _ _ h, cell_of_row _ _ 3 _ _ _ h⟩
end Go.Proofs.Ytbbopbbnhkcfdaa
