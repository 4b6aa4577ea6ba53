/-
  Proved: how an Env lies in memory; what a function answers that leaves an Env in its result. Conditions: as each says.
-/
import Derived.Test.YtbbopbbnhkcfdaaEnWithV
import Derived.Test.YtbbopbbnhkcfdaaEnWithF
import Derived.Test.YtbbopbbnhkcfdaaEnWout
import Derived.Test.YtbbopbbnhkcfdaaEnCatS
import Derived.Laws.ResultCell
namespace Go.Proofs.Ytbbopbbnhkcfdaa
open Go Go.RowKit EnMath

/-- An Env: bindings, arguments, functions. -/
structure Ev where
  vars : List (ByteArray × ByteArray)
  args : List ByteArray
  funs : List (ByteArray × Int)
deriving DecidableEq
def EnvAt (w : World) (v : Value) (E : Ev) : Prop := ∃ vv av fv, v = .agg #[vv, av, fv] ∧ Rd 2 bC w vv E.vars ∧ Rd 1 sC w av E.args ∧ Rd 2 fC w fv E.funs
def Fit (E : Ev) : Prop := E.vars.length ≤ 1000 ∧ E.funs.length ≤ 1000 ∧ E.args.length * 16 ≤ 140737488355328
theorem EnvAt.below {w w' : World} {B : Nat} {v : Value} {E : Ev} (h : EnvAt w v E) (hb : Below B w w') (hB : w.heap.size ≤ B) : EnvAt w' v E := by
  obtain ⟨vv, av, fv, e, h1, h2, h3⟩ := h
  exact ⟨vv, av, fv, e, h1.below hb hB, h2.below hb hB, h3.below hb hB⟩
theorem EnvAt.shape {w : World} {v : Value} {E : Ev} (h : EnvAt w v E) : ∃ p1 c1 p2 c2 p3 c3, v = .agg #[.slice p1 E.vars.length c1, .slice p2 E.args.length c2, .slice p3 E.funs.length c3] ∧ Rd 2 bC w (.slice p1 E.vars.length c1) E.vars ∧ Rd 1 sC w (.slice p2 E.args.length c2) E.args ∧ Rd 2 fC w (.slice p3 E.funs.length c3) E.funs := by
  obtain ⟨vv, av, fv, e, h1, h2, h3⟩ := h
  obtain ⟨p1, c1, rfl⟩ := h1.shape
  obtain ⟨p2, c2, rfl⟩ := h2.shape
  obtain ⟨p3, c3, rfl⟩ := h3.shape
  exact ⟨p1, c1, p2, c2, p3, c3, e, h1, h2, h3⟩

theorem results_cell {fn : Func} {p : Tmp} {ty : TypeId} (h : fn.results = #[.cell p ty]) (tmps : Array Value) (P : Program) (w : World) :
    (results fn tmps).run P w = ((asAddr (tmps.getD p undef)).run P w).andThen fun a w₁ => (loadVar ty a).run P w₁ := by
  simp only [results, h]
  simp [Sem.run_bind, Result.andThen]
theorem env_info : (Try.prog.info? 26).map (·.size) = some 3 := by kernel_rfl
theorem ret_env {fn : Func} {p : Tmp} (hf : fn.results = #[.cell p 26]) {tmps : Array Value} {k : Nat} {a b c : Value} {w : World} {t : TypeId} {fr : Nat × Nat} (h : w.heap[k]? = some (.cells #[a, b, c] t fr)) (h2 : tmps.getD p undef = .pointer (some ⟨k, 0, none⟩)) :
    (results fn tmps).run Try.prog w = .ok (.agg #[a, b, c]) w := by
  rw [results_cell hf, h2]
  have h4 : (loadVar 26 ⟨k, 0, none⟩).run Try.prog w = .ok (.agg #[a, b, c]) w := run_loadVar_row (P := Try.prog) w k t 26 _ fr _ h Try.underlying26 rfl env_info
  simp [asAddr, Result.andThen, h4]
theorem env_put {w : World} {k : Nat} {t : TypeId} {a b c x y z : Value} (h : w.heap[k]? = some (.cells #[x, y, z] t (0, 0))) :
    (((w.setCell ⟨k, 0, none⟩ a).setCell ⟨k, 1, none⟩ b).setCell ⟨k, 2, none⟩ c).heap[k]? = some (.cells #[a, b, c] t (0, 0)) :=
  heap_setCell_same _ k 2 _ t c (heap_setCell_same _ k 1 _ t b (heap_setCell_same w k 0 _ t a h))
theorem env_set {w0 w : World} {B k : Nat} (hb : Below B w0 w) (hk : B ≤ k) (a b c : Value) : Below B w0 (((w.setCell ⟨k, 0, none⟩ a).setCell ⟨k, 1, none⟩ b).setCell ⟨k, 2, none⟩ c) :=
  ((hb.setCell hk a).setCell hk b).setCell hk c

/-- A block that is a row of one slice. -/
def Has (w : World) (g : Nat) (v : Value) (t : TypeId) : Prop := w.heap[g]? = some (.cells #[v] t (0, 0))
theorem Has.new {w : World} {v : Value} {t : TypeId} {g : Nat} (h : g = w.heap.size) : Has (w.alloc (.cells #[v] t)) g v t := by subst h; exact heap_alloc_new w _
theorem Has.lt {w : World} {v : Value} {t : TypeId} {g : Nat} (h : Has w g v t) : g < w.heap.size := (Array.getElem?_eq_some_iff.1 h).1
theorem Has.below {w w' : World} {v : Value} {t : TypeId} {g : Nat} (h : Has w g v t) (hb : Below w.heap.size w w') : Has w' g v t := (hb.block g h.lt).trans h
theorem Has.alloc {w : World} {v : Value} {t : TypeId} {g : Nat} (h : Has w g v t) (o : Obj) : Has (w.alloc o) g v t := h.below ((Below.refl _ w).alloc (Nat.le_refl _) o)
theorem Has.drew {w : World} {v : Value} {t : TypeId} {g : Nat} (h : Has w g v t) : Has w.drew g v t := h
theorem Has.cat {α : Type} {sz : Nat} {enc : α → List Value} {w : World} {v : Value} {t : TypeId} {g : Nat} {l : List α} (h : Has w g v t) (hr : Rd sz enc w v l) : CatAt sz enc w (some ⟨g, 0, none⟩) [l] :=
  CatAt.of_block (vs := [v]) h rfl fun i hi => match i, hi with
    | 0, _ => hr
theorem copyS_any {l : List ByteArray} {v : Value} {g : Nat} {w : World} (h : Has w g v 23) (hr : Rd 1 sC w v l) (hl : l.length * 16 ≤ 140737488355328) :
    Calls Try.prog 27 #[.slice (some ⟨g, 0, none⟩) 1 1] w fun e w' => ∃ p c, e = .returned (.slice p l.length c) ∧ Rd 1 sC w' (.slice p l.length c) l ∧ Below w.heap.size w w' :=
  (catS_any _ 1 [l] w (h.cat hr) (by simp) (by simpa using hl)).mono fun e w' ⟨v', he, hr', hb⟩ => by
    rw [show [l].flatten = l by simp] at hr'
    obtain ⟨p, c, rfl⟩ := hr'.shape
    exact ⟨p, c, he, hr', hb⟩
theorem copyV_any {l : List (ByteArray × ByteArray)} {v : Value} {g : Nat} {w : World} (h : Has w g v 22) (hr : Rd 2 bC w v l) (hl : l.length ≤ 1000) :
    Calls Try.prog 30 #[.slice (some ⟨g, 0, none⟩) 1 1] w fun e w' => ∃ p c, e = .returned (.slice p l.length c) ∧ Rd 2 bC w' (.slice p l.length c) l ∧ Below w.heap.size w w' :=
  (catV_any _ 1 [l] w (h.cat hr) (by simp) (by simp; omega)).mono fun e w' ⟨v', he, hr', hb⟩ => by
    rw [show [l].flatten = l by simp] at hr'
    obtain ⟨p, c, rfl⟩ := hr'.shape
    exact ⟨p, c, he, hr', hb⟩
theorem copyF_any {l : List (ByteArray × Int)} {v : Value} {g : Nat} {w : World} (h : Has w g v 24) (hr : Rd 2 fC w v l) (hl : l.length ≤ 1000) :
    Calls Try.prog 28 #[.slice (some ⟨g, 0, none⟩) 1 1] w fun e w' => ∃ p c, e = .returned (.slice p l.length c) ∧ Rd 2 fC w' (.slice p l.length c) l ∧ Below w.heap.size w w' :=
  (catF_any _ 1 [l] w (h.cat hr) (by simp) (by simp; omega)).mono fun e w' ⟨v', he, hr', hb⟩ => by
    rw [show [l].flatten = l by simp] at hr'
    obtain ⟨p, c, rfl⟩ := hr'.shape
    exact ⟨p, c, he, hr', hb⟩

theorem en_alloc {a w : World} (h : Below a.heap.size a w) (o : Obj) : Below a.heap.size a (w.alloc o) := h.alloc h.size o
theorem en_trans {a b c : World} (h : Below a.heap.size a b) (k : Below b.heap.size b c) : Below a.heap.size a c := h.trans (k.mono h.size)
/-- A store of an Env into a variable of its own turns no row. -/
theorem Rd.put {α : Type} {sz : Nat} {enc : α → List Value} {w : World} {v : Value} {l : List α} (h : Rd sz enc w v l) (hs : ∀ x, ∃ s, (enc x)[0]? = some (.string s)) {k : Nat} {t : TypeId} {fr : Nat × Nat} {p1 p2 p3 : Option Addr} {n1 n2 n3 m1 m2 m3 : Nat}
    (hk : w.heap[k]? = some (.cells #[.slice p1 n1 m1, .slice p2 n2 m2, .slice p3 n3 m3] t fr)) (a b c : Value) : Rd sz enc (((w.setCell ⟨k, 0, none⟩ a).setCell ⟨k, 1, none⟩ b).setCell ⟨k, 2, none⟩ c) v l := by
  obtain ⟨p, q, hv, h1, h2, h3⟩ := h.is
  refine ⟨p, q, hv, h1, h2, ?_⟩
  rcases h3 with h3 | ⟨g, o, hp, hc⟩
  · exact .inl h3
  · refine .inr ⟨g, o, hp, fun j x hj i u hu => ?_⟩
    have hne : g ≠ k := fun e => by
      subst e
      obtain ⟨s, hs⟩ := hs x
      have := hc j x hj 0 _ hs
      rw [cell_of_row w g _ _ _ _ hk] at this
      match o + j * sz + 0, this with
      | 0, h => simp at h
      | 1, h => simp at h
      | 2, h => simp at h
      | n + 3, h => simp at h
    have hb : (((w.setCell ⟨k, 0, none⟩ a).setCell ⟨k, 1, none⟩ b).setCell ⟨k, 2, none⟩ c).heap[g]? = w.heap[g]? := by
      rw [Below.heap_setCell _ _ _ _ hne, Below.heap_setCell _ _ _ _ hne, Below.heap_setCell _ _ _ _ hne]
    exact (World.cell?_of_block (a := ⟨g, o + j * sz + i, none⟩) hb).trans (hc j x hj i u hu)
theorem EnvAt.put {w : World} {v : Value} {E : Ev} (h : EnvAt w v E) {k : Nat} {t : TypeId} {fr : Nat × Nat} {p1 p2 p3 : Option Addr} {n1 n2 n3 m1 m2 m3 : Nat}
    (hk : w.heap[k]? = some (.cells #[.slice p1 n1 m1, .slice p2 n2 m2, .slice p3 n3 m3] t fr)) (a b c : Value) : EnvAt (((w.setCell ⟨k, 0, none⟩ a).setCell ⟨k, 1, none⟩ b).setCell ⟨k, 2, none⟩ c) v E := by
  obtain ⟨vv, av, fv, e, h1, h2, h3⟩ := h
  exact ⟨vv, av, fv, e, h1.put (fun x => ⟨x.1, rfl⟩) hk a b c, h2.put (fun x => ⟨x, rfl⟩) hk a b c, h3.put (fun x => ⟨x.1, rfl⟩) hk a b c⟩
end Go.Proofs.Ytbbopbbnhkcfdaa
