/-
  Proved: a store of one slice into an Env's variable turns no row. Conditions: as each says.
-/
import Derived.Test.YtbbopbbnhkcfdaaEnEnv
namespace Go.Proofs.Ytbbopbbnhkcfdaa
open Go Go.RowKit EnMath

theorem Rd.setC {α : Type} {sz : Nat} {enc : α → List Value} {w : World} {v : Value} {l : List α} (h : Rd sz enc w v l) (hs : ∀ x, ∃ s, (enc x)[0]? = some (.string s)) {k : Nat} {t : TypeId} {fr : Nat × Nat} {p1 p2 p3 : Option Addr} {n1 n2 n3 m1 m2 m3 : Nat}
    (hk : w.heap[k]? = some (.cells #[.slice p1 n1 m1, .slice p2 n2 m2, .slice p3 n3 m3] t fr)) (j0 : Nat) (a : Value) : Rd sz enc (w.setCell ⟨k, j0, none⟩ a) v l := by
  obtain ⟨p, q, hv, h1, h2, h3⟩ := h.is
  refine ⟨p, q, hv, h1, h2, ?_⟩
  rcases h3 with h3 | ⟨g, o, hp, hc⟩
  · exact .inl h3
  · refine .inr ⟨g, o, hp, fun j x hj i u hu => ?_⟩
    have hne : g ≠ k := fun e => by
      subst e
      obtain ⟨s, hs⟩ := hs x
      have := hc j x hj 0 _ hs
      rw [cell_of_row w g _ _ _ _ hk] at this
      match o + j * sz + 0, this with
      | 0, h => simp at h
      | 1, h => simp at h
      | 2, h => simp at h
      | n + 3, h => simp at h
    exact (World.cell?_of_block (a := ⟨g, o + j * sz + i, none⟩) (Below.heap_setCell _ _ _ _ hne)).trans (hc j x hj i u hu)
theorem str_b (x : ByteArray × ByteArray) : ∃ s, (bC x)[0]? = some (.string s) := ⟨x.1, rfl⟩
theorem str_s (x : ByteArray) : ∃ s, (sC x)[0]? = some (.string s) := ⟨x, rfl⟩
theorem str_f (x : ByteArray × Int) : ∃ s, (fC x)[0]? = some (.string s) := ⟨x.1, rfl⟩
/-- An Env's variable whose first slice is set, and that is then copied. -/
theorem env_first {w : World} {X : Nat} {v : Value} {p p2 p3 : Option Addr} {n m n2 m2 n3 m3 : Nat} {t : TypeId} {E : Ev} (hX : w.heap[X]? = some (.cells #[.slice p n m, .slice p2 n2 m2, .slice p3 n3 m3] t (0, 0))) (hY : w.heap[X + 1]? = some (.cells #[.slice none 0 0, .slice none 0 0, .slice none 0 0] t (0, 0)))
    (hv : Rd 2 bC w v E.vars) (h2 : Rd 1 sC w (.slice p2 n2 m2) E.args) (h3 : Rd 2 fC w (.slice p3 n3 m3) E.funs) :
    EnvAt ((((w.setCell ⟨X, 0, none⟩ v).setCell ⟨X + 1, 0, none⟩ v).setCell ⟨X + 1, 1, none⟩ (.slice p2 n2 m2)).setCell ⟨X + 1, 2, none⟩ (.slice p3 n3 m3)) (.agg #[v, .slice p2 n2 m2, .slice p3 n3 m3]) E ∧
    ((((w.setCell ⟨X, 0, none⟩ v).setCell ⟨X + 1, 0, none⟩ v).setCell ⟨X + 1, 1, none⟩ (.slice p2 n2 m2)).setCell ⟨X + 1, 2, none⟩ (.slice p3 n3 m3)).heap[X + 1]? = some (.cells #[v, .slice p2 n2 m2, .slice p3 n3 m3] t (0, 0)) := by
  have hY1 : (w.setCell ⟨X, 0, none⟩ v).heap[X + 1]? = some (.cells #[.slice none 0 0, .slice none 0 0, .slice none 0 0] t (0, 0)) := (Below.heap_setCell _ _ _ _ (by simp)).trans hY
  exact ⟨⟨_, _, _, rfl, (hv.setC str_b hX 0 v).put str_b hY1 _ _ _, (h2.setC str_s hX 0 v).put str_s hY1 _ _ _, (h3.setC str_f hX 0 v).put str_f hY1 _ _ _⟩, env_put hY1⟩
theorem del_snoc (l : List (ByteArray × ByteArray)) (x : ByteArray × ByteArray) (n : ByteArray) : delM (l ++ [x]) n = if eqN x.1 n then delM l n else delM l n ++ [x] := by
  unfold delM
  rw [List.filter_append]
  cases h : eqN x.1 n <;> simp [h]
end Go.Proofs.Ytbbopbbnhkcfdaa
