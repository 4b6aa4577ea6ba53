/-
  Proved: how a word's parts lie in memory, and what keeps them there. Conditions: as each says.
-/
import Derived.Test.YtloaalapkmbgeaaDoorLexMath
import Derived.Test.YtloaalapkmbgeaaDoorRows
import Derived.Deep.MidRow
import Derived.Deep.AppendLies
import Derived.Lib.Hide
import Derived.WalkKit
import Derived.OwnWalk
import Derived.Lib.FrozenHead
namespace Go.Proofs.YtloaalapkmbgeaaDoor
open Go Go.RowKit GlyphMath LexMath

/-- What a call may turn: of the blocks that there were none but those of D. -/
structure Kept (D : Nat → Prop) (w w' : World) : Prop where
  os : w'.os = w.os
  tape : w'.tape = w.tape
  output : w'.output = w.output
  size : w.heap.size ≤ w'.heap.size
  block : ∀ k, k < w.heap.size → ¬ D k → w'.heap[k]? = w.heap[k]?

theorem Kept.refl (D : Nat → Prop) (w : World) : Kept D w w := ⟨rfl, rfl, rfl, Nat.le_refl _, fun _ _ _ => rfl⟩
theorem Kept.mono {D D' : Nat → Prop} {w w' : World} (h : Kept D w w') (hD : ∀ k, k < w.heap.size → D k → D' k) : Kept D' w w' :=
  ⟨h.os, h.tape, h.output, h.size, fun k hk hn => h.block k hk fun hd => hn (hD k hk hd)⟩
theorem Kept.trans {D D' : Nat → Prop} {a b c : World} (h : Kept D a b) (k : Kept D' b c) (hD : ∀ i, D' i → D i ∨ a.heap.size ≤ i) : Kept D a c :=
  ⟨k.os.trans h.os, k.tape.trans h.tape, k.output.trans h.output, Nat.le_trans h.size k.size, fun i hi hn =>
    (k.block i (Nat.lt_of_lt_of_le hi h.size) fun hd => (hD i hd).elim hn fun h' => by omega).trans (h.block i hi hn)⟩
theorem Kept.on {D : Nat → Prop} {a b c : World} (h : Kept D a b) (k : Kept D b c) : Kept D a c := h.trans k fun _ h => .inl h
theorem Kept.drew {D : Nat → Prop} {a w : World} (h : Kept D a w) : Kept D a w.drew := ⟨h.os, h.tape, h.output, h.size, h.block⟩
theorem Kept.alloc {D : Nat → Prop} {a w : World} (h : Kept D a w) (o : Obj) : Kept D a (w.alloc o) :=
  ⟨h.os, h.tape, h.output, Nat.le_trans h.size (by simp), fun k hk hn => (Below.heap_alloc w o k (Nat.lt_of_lt_of_le hk h.size)).trans (h.block k hk hn)⟩
theorem Kept.setCell {D : Nat → Prop} {a w : World} (h : Kept D a w) {p : Addr} (hp : D p.block ∨ a.heap.size ≤ p.block) (u : Value) : Kept D a (w.setCell p u) :=
  ⟨h.os, h.tape, h.output, by have := h.size; simpa [World.setCell] using this, fun k hk hn => (Below.heap_setCell w p u k (fun e => by subst e; exact hp.elim hn fun h' => by omega)).trans (h.block k hk hn)⟩
theorem Kept.grown {D : Nat → Prop} {a w w' : World} {row : Option Nat} (h : Kept D a w) (hg : w.grownBy w' row) (hr : ∀ k, row = some k → D k ∨ a.heap.size ≤ k) : Kept D a w' :=
  ⟨hg.os.trans h.os, hg.tape.trans h.tape, hg.output.trans h.output, Nat.le_trans h.size hg.size, fun k hk hn =>
    (hg.block k (Nat.lt_of_lt_of_le hk h.size) (fun e => (hr k e.symm).elim hn fun h' => by omega)).trans (h.block k hk hn)⟩
theorem Kept.below {D : Nat → Prop} {w w' : World} (h : Kept D w w') {B : Nat} (hB : ∀ k, D k → B ≤ k) (hw : B ≤ w.heap.size) : Below B w w' :=
  ⟨h.os, h.tape, h.output, h.size, fun k hk => h.block k (by omega) fun hd => by have := hB k hd; omega⟩
theorem Kept.of_below {D : Nat → Prop} {w w' : World} (h : Below w.heap.size w w') : Kept D w w' := ⟨h.os, h.tape, h.output, h.size, fun k hk _ => h.block k hk⟩
theorem Kept.cell {D : Nat → Prop} {w w' : World} (h : Kept D w w') {a : Addr} {v : Value} (hc : w.cell? a = some v) (hn : ¬ D a.block) : w'.cell? a = some v :=
  (World.cell?_of_block (h.block a.block (World.block_lt_of_cell? w a hc) hn)).trans hc
theorem Kept.heap {D : Nat → Prop} {w w' : World} (h : Kept D w w') {k : Nat} {o : Obj} (hk : w.heap[k]? = some o) (hn : ¬ D k) : w'.heap[k]? = some o :=
  (h.block k (Array.getElem?_eq_some_iff.1 hk).1 hn).trans hk

theorem cell_plain {w : World} {k : Nat} {cs : Array Value} {t : TypeId} {fz : Nat × Nat} (h : w.heap[k]? = some (.cells cs t fz)) (o : Nat) : w.cell? ⟨k, o, none⟩ = cs[o]? := cell_of_row w k o cs t fz h
theorem frozen_plain {w : World} {k : Nat} {cs : Array Value} {t : TypeId} (h : w.heap[k]? = some (.cells cs t (0, 0))) (o : Nat) : w.frozen? ⟨k, o, none⟩ = false := Lib.frozen_of_heap h o
theorem heap_set_one {w : World} {k : Nat} {v : Value} {t : TypeId} (h : w.heap[k]? = some (.cells #[v] t (0, 0))) (u : Value) : (w.setCell ⟨k, 0, none⟩ u).heap[k]? = some (.cells #[u] t (0, 0)) := by
  simp [World.setCell, Array.getElem?_modify, h]

/-! ### Parts -/
def txt (l : List UInt8) : Value := .string ⟨l.toArray⟩
/-- A part as cells, its word as that value. -/
def pcells (p : Pt) (wv : Value) : List Value := [.int .i64 p.kind, txt p.text, txt p.op, wv, .bool p.q]
/-- A part as a value. -/
def partV (p : Pt) (u : Value) : Value := .agg #[.int .i64 p.kind, txt p.text, txt p.op, u, .bool p.q]
def rowCells : List Pt → List Value → List Value
  | p :: ps, v :: vs => pcells p v ++ rowCells ps vs
  | _, _ => []
theorem rowCells_append : ∀ (ps : List Pt) (vs : List Value) (qs : List Pt) (us : List Value), ps.length = vs.length → rowCells (ps ++ qs) (vs ++ us) = rowCells ps vs ++ rowCells qs us
  | [], [], _, _, _ => rfl
  | p :: ps, v :: vs, qs, us, h => by
    simp only [List.cons_append, rowCells, rowCells_append ps vs qs us (by simpa using h), List.append_assoc]
  | [], _ :: _, _, _, h => by simp at h
  | _ :: _, [], _, _, h => by simp at h
theorem rowCells_length : ∀ (ps : List Pt) (vs : List Value), ps.length = vs.length → (rowCells ps vs).length = ps.length * 5
  | [], [], _ => rfl
  | p :: ps, v :: vs, h => by
    rw [rowCells, List.length_append, rowCells_length ps vs (by simpa using h), List.length_cons]
    simp only [pcells, List.length_cons, List.length_nil]; omega
  | [], _ :: _, h => by simp at h
  | _ :: _, [], h => by simp at h
theorem rowCells_get : ∀ (ps : List Pt) (vs : List Value) (j : Nat) (p : Pt) (v : Value), ps[j]? = some p → vs[j]? = some v → ps.length = vs.length → ∀ i, i < 5 → (rowCells ps vs)[j * 5 + i]? = (pcells p v)[i]?
  | [], _, _, _, _, h, _, _, _, _ => by simp at h
  | _ :: _, [], _, _, _, _, h, _, _, _ => by simp at h
  | a :: ps, b :: vs, 0, p, v, h1, h2, _, i, hi => by
    simp only [List.getElem?_cons_zero, Option.some.injEq] at h1 h2
    subst h1 h2
    rw [rowCells, Nat.zero_mul, Nat.zero_add, List.getElem?_append_left (by simp [pcells]; omega)]
  | a :: ps, b :: vs, j + 1, p, v, h1, h2, hl, i, hi => by
    simp only [List.getElem?_cons_succ] at h1 h2
    rw [rowCells, show (j + 1) * 5 + i = 5 + (j * 5 + i) by omega, List.getElem?_append_right (by simp [pcells])]
    simpa [pcells] using rowCells_get ps vs j p v h1 h2 (by simpa using hl) i hi

/-- A value that is a row of parts, in blocks of F. -/
inductive WordV (w : World) (F : Nat → Prop) : Value → List Pt → Prop
  | row (v : Value) (ps : List Pt) (vs : List Value) : w.ownsRow 0 30 5 v ps.length (rowCells ps vs) → ps.length = vs.length → (∀ g, v.ownBlock = some g → F g) →
      (∀ (j : Nat) (p : Pt) (u : Value), ps[j]? = some p → vs[j]? = some u → WordV w F u p.word) → WordV w F v ps

theorem ownsRow_same {w w' : World} {B e size n : Nat} {v : Value} {xs : List Value} (h : w.ownsRow B e size v n xs) (hk : ∀ g, v.ownBlock = some g → w'.heap[g]? = w.heap[g]?) : w'.ownsRow B e size v n xs := by
  refine ⟨h.1, ?_⟩
  rcases h.2 with hn | ⟨g, cap, cur, hv, hbg, hg, r⟩
  · exact .inl hn
  · exact .inr ⟨g, cap, cur, hv, hbg, (hk g (by rw [hv]; rfl)).trans hg, r⟩
theorem ownsRow_base {w : World} {B C e size n : Nat} {v : Value} {xs : List Value} (h : w.ownsRow B e size v n xs) (hC : ∀ g, v.ownBlock = some g → C ≤ g) : w.ownsRow C e size v n xs := by
  refine ⟨h.1, ?_⟩
  rcases h.2 with hn | ⟨g, cap, cur, hv, hbg, hg, r⟩
  · exact .inl hn
  · exact .inr ⟨g, cap, cur, hv, hC g (by rw [hv]; rfl), hg, r⟩
theorem WordV.same {w w' : World} {F : Nat → Prop} {v : Value} {ps : List Pt} (h : WordV w F v ps) (hk : ∀ g, F g → w'.heap[g]? = w.heap[g]?) : WordV w' F v ps := by
  induction h with
  | row v ps vs h1 h2 h3 _ ih => exact .row v ps vs (ownsRow_same h1 fun g hg => hk g (h3 g hg)) h2 h3 ih
theorem WordV.mono {w : World} {F F' : Nat → Prop} {v : Value} {ps : List Pt} (h : WordV w F v ps) (hF : ∀ g, F g → F' g) : WordV w F' v ps := by
  induction h with
  | row v ps vs h1 h2 h3 _ ih => exact .row v ps vs h1 h2 (fun g hg => hF g (h3 g hg)) ih
theorem WordV.nil (w : World) (F : Nat → Prop) : WordV w F (.slice none 0 0) [] :=
  .row _ [] [] (World.ownsRow_nil _ _ _ _) rfl (fun _ h => by simp [Value.ownBlock] at h) (fun _ _ _ h => by simp at h)
/-- A word in new blocks. -/
def WordN (w : World) (B : Nat) (v : Value) (ps : List Pt) : Prop := ∃ F, WordV w F v ps ∧ ∀ g, F g → B ≤ g ∧ g < w.heap.size
theorem WordN.nil (w : World) (B : Nat) : WordN w B (.slice none 0 0) [] := ⟨fun _ => False, WordV.nil _ _, fun _ h => h.elim⟩
theorem WordN.kept {D : Nat → Prop} {w w' : World} {B : Nat} {v : Value} {ps : List Pt} (h : WordN w B v ps) (hk : Kept D w w') (hD : ∀ k, B ≤ k → ¬ D k) : WordN w' B v ps := by
  obtain ⟨F, h1, h2⟩ := h
  exact ⟨F, h1.same fun g hg => hk.block g (h2 g hg).2 (hD g (h2 g hg).1), fun g hg => ⟨(h2 g hg).1, Nat.lt_of_lt_of_le (h2 g hg).2 hk.size⟩⟩
theorem WordN.base {w : World} {B C : Nat} {v : Value} {ps : List Pt} (h : WordN w B v ps) (hC : C ≤ B) : WordN w C v ps := by
  obtain ⟨F, h1, h2⟩ := h
  exact ⟨F, h1, fun g hg => ⟨Nat.le_trans hC (h2 g hg).1, (h2 g hg).2⟩⟩
end Go.Proofs.YtloaalapkmbgeaaDoor
