/-
  Proved: how a reader's letters, a word's parts and a row of parts lie in memory, and what keeps them there. Conditions: as each says.
-/
import Derived.Test.YtpifbpfmjmcchaaDoorLexMath
import Derived.Test.YtpifbpfmjmcchaaDoorRows
import Derived.Deep.MidRow
import Derived.Deep.AppendLies
import Derived.Lib.Hide
import Derived.WalkKit
import Derived.OwnWalk
import Derived.Lib.FrozenHead
namespace Go.Proofs.YtpifbpfmjmcchaaDoor
open Go Go.RowKit GlyphMath LexMath

/-- What a call may turn: of the blocks that there were none but those of D. -/
structure Kept (D : Nat → Prop) (w w' : World) : Prop where
  os : w'.os = w.os
  tape : w'.tape = w.tape
  output : w'.output = w.output
  size : w.heap.size ≤ w'.heap.size
  block : ∀ k, k < w.heap.size → ¬ D k → w'.heap[k]? = w.heap[k]?

theorem Kept.refl (D : Nat → Prop) (w : World) : Kept D w w := ⟨rfl, rfl, rfl, Nat.le_refl _, fun _ _ _ => rfl⟩
theorem Kept.mono {D D' : Nat → Prop} {w w' : World} (h : Kept D w w') (hD : ∀ k, k < w.heap.size → D k → D' k) : Kept D' w w' :=
  ⟨h.os, h.tape, h.output, h.size, fun k hk hn => h.block k hk fun hd => hn (hD k hk hd)⟩
theorem Kept.trans {D D' : Nat → Prop} {a b c : World} (h : Kept D a b) (k : Kept D' b c) (hD : ∀ i, D' i → D i ∨ a.heap.size ≤ i) : Kept D a c :=
  ⟨k.os.trans h.os, k.tape.trans h.tape, k.output.trans h.output, Nat.le_trans h.size k.size, fun i hi hn =>
    (k.block i (Nat.lt_of_lt_of_le hi h.size) fun hd => (hD i hd).elim hn fun h' => by omega).trans (h.block i hi hn)⟩
theorem Kept.on {D : Nat → Prop} {a b c : World} (h : Kept D a b) (k : Kept D b c) : Kept D a c := h.trans k fun _ h => .inl h
theorem Kept.drew {D : Nat → Prop} {a w : World} (h : Kept D a w) : Kept D a w.drew := ⟨h.os, h.tape, h.output, h.size, h.block⟩
theorem Kept.alloc {D : Nat → Prop} {a w : World} (h : Kept D a w) (o : Obj) : Kept D a (w.alloc o) :=
  ⟨h.os, h.tape, h.output, Nat.le_trans h.size (by simp), fun k hk hn => (Below.heap_alloc w o k (Nat.lt_of_lt_of_le hk h.size)).trans (h.block k hk hn)⟩
theorem Kept.setCell {D : Nat → Prop} {a w : World} (h : Kept D a w) {p : Addr} (hp : D p.block ∨ a.heap.size ≤ p.block) (u : Value) : Kept D a (w.setCell p u) :=
  ⟨h.os, h.tape, h.output, by have := h.size; simpa [World.setCell] using this, fun k hk hn => (Below.heap_setCell w p u k (fun e => by subst e; exact hp.elim hn fun h' => by omega)).trans (h.block k hk hn)⟩
theorem Kept.grown {D : Nat → Prop} {a w w' : World} {row : Option Nat} (h : Kept D a w) (hg : w.grownBy w' row) (hr : ∀ k, row = some k → D k ∨ a.heap.size ≤ k) : Kept D a w' :=
  ⟨hg.os.trans h.os, hg.tape.trans h.tape, hg.output.trans h.output, Nat.le_trans h.size hg.size, fun k hk hn =>
    (hg.block k (Nat.lt_of_lt_of_le hk h.size) (fun e => (hr k e.symm).elim hn fun h' => by omega)).trans (h.block k hk hn)⟩
theorem Kept.below {D : Nat → Prop} {w w' : World} (h : Kept D w w') {B : Nat} (hB : ∀ k, D k → B ≤ k) (hw : B ≤ w.heap.size) : Below B w w' :=
  ⟨h.os, h.tape, h.output, h.size, fun k hk => h.block k (by omega) fun hd => by have := hB k hd; omega⟩
theorem Kept.of_below {D : Nat → Prop} {w w' : World} (h : Below w.heap.size w w') : Kept D w w' := ⟨h.os, h.tape, h.output, h.size, fun k hk _ => h.block k hk⟩
theorem Kept.cell {D : Nat → Prop} {w w' : World} (h : Kept D w w') {a : Addr} {v : Value} (hc : w.cell? a = some v) (hn : ¬ D a.block) : w'.cell? a = some v :=
  (World.cell?_of_block (h.block a.block (World.block_lt_of_cell? w a hc) hn)).trans hc
theorem Kept.heap {D : Nat → Prop} {w w' : World} (h : Kept D w w') {k : Nat} {o : Obj} (hk : w.heap[k]? = some o) (hn : ¬ D k) : w'.heap[k]? = some o :=
  (h.block k (Array.getElem?_eq_some_iff.1 hk).1 hn).trans hk

/-! ### A reader -/
/-- The letters that are left, and the end, as cells. -/
def lcells (sz : Nat) : List Nat → List Value
  | [] => [.int .i32 0, .int .i64 (sz : Int)]
  | c :: r => .int .i32 (c : Int) :: .int .i64 ((sz - (enc (c :: r)).length : Nat) : Int) :: lcells sz r
theorem lcells_drop (sz : Nat) : ∀ (k : Nat) (xs : List Nat), k ≤ xs.length → (lcells sz xs).drop (2 * k) = lcells sz (xs.drop k)
  | 0, _, _ => rfl
  | k + 1, [], h => by simp at h
  | k + 1, c :: r, h => by
    rw [show 2 * (k + 1) = 2 * k + 2 by omega]
    simp only [lcells, List.drop_succ_cons]
    exact lcells_drop sz k r (by simpa using h)
theorem lcells_next (sz : Nat) (xs : List Nat) : (lcells sz xs)[0]? = some (.int .i32 (next xs : Int)) := by cases xs <;> rfl
theorem lcells_at (sz : Nat) (xs : List Nat) : (lcells sz xs)[1]? = some (.int .i64 ((sz - (enc xs).length : Nat) : Int)) := by cases xs <;> rfl

/-- The letters that are left lie in block G, the reader in block X. -/
structure RdO (w : World) (X G sz o c : Nat) (xs : List Nat) : Prop where
  head : w.heap[X]? = some (.cells #[.slice (some ⟨G, o, none⟩) (xs.length + 1) c] 64 (0, 0))
  cap : xs.length + 1 ≤ c
  row : w.rangeAt G o (lcells sz xs)
  ne : X ≠ G
  good : ∀ x ∈ xs, GoodL x
  few : xs.length ≤ 2000
def Rd (w : World) (X G sz : Nat) (xs : List Nat) : Prop := ∃ o c, RdO w X G sz o c xs

theorem cell_plain {w : World} {k : Nat} {cs : Array Value} {t : TypeId} {fz : Nat × Nat} (h : w.heap[k]? = some (.cells cs t fz)) (o : Nat) : w.cell? ⟨k, o, none⟩ = cs[o]? := cell_of_row w k o cs t fz h
theorem frozen_plain {w : World} {k : Nat} {cs : Array Value} {t : TypeId} (h : w.heap[k]? = some (.cells cs t (0, 0))) (o : Nat) : w.frozen? ⟨k, o, none⟩ = false := Lib.frozen_of_heap h o
theorem heap_set_one {w : World} {k : Nat} {v : Value} {t : TypeId} (h : w.heap[k]? = some (.cells #[v] t (0, 0))) (u : Value) : (w.setCell ⟨k, 0, none⟩ u).heap[k]? = some (.cells #[u] t (0, 0)) := by
  simp [World.setCell, Array.getElem?_modify, h]

theorem RdO.cell0 {w : World} {X G sz o c : Nat} {xs : List Nat} (h : RdO w X G sz o c xs) : w.cell? ⟨X, 0, none⟩ = some (.slice (some ⟨G, o, none⟩) (xs.length + 1) c) := by rw [cell_plain h.head]; rfl
theorem RdO.frozen0 {w : World} {X G sz o c : Nat} {xs : List Nat} (h : RdO w X G sz o c xs) : w.frozen? ⟨X, 0, none⟩ = false := frozen_plain h.head 0
theorem RdO.next0 {w : World} {X G sz o c : Nat} {xs : List Nat} (h : RdO w X G sz o c xs) : w.cell? ⟨G, o, none⟩ = some (.int .i32 (next xs : Int)) := by
  simpa using h.row 0 _ (lcells_next sz xs)
theorem RdO.at0 {w : World} {X G sz o c : Nat} {xs : List Nat} (h : RdO w X G sz o c xs) : w.cell? ⟨G, o + 1, none⟩ = some (.int .i64 ((sz - (enc xs).length : Nat) : Int)) := h.row 1 _ (lcells_at sz xs)
theorem RdO.letter {w : World} {X G sz o c : Nat} {xs : List Nat} (h : RdO w X G sz o c xs) (k : Nat) (hk : k ≤ xs.length) : w.cell? ⟨G, o + k * 2, none⟩ = some (.int .i32 (next (xs.drop k) : Int)) := by
  have e : (lcells sz xs)[k * 2]? = some (.int .i32 (next (xs.drop k) : Int)) := by
    rw [← lcells_next sz, ← lcells_drop sz k xs hk, List.getElem?_drop, Nat.mul_comm, Nat.add_zero]
  exact h.row _ _ e
theorem next_lt0 {xs : List Nat} (h : ∀ x ∈ xs, GoodL x) : next xs = 0 ∨ GoodL (next xs) := by
  cases xs with
  | nil => exact .inl rfl
  | cons a r => exact .inr (h a (by simp))
theorem next_zero {xs : List Nat} (h : ∀ x ∈ xs, GoodL x) : next xs = 0 ↔ xs = [] := by
  cases xs with
  | nil => simp [next]
  | cons a r =>
    have := (h a (by simp)).1
    simp [next]; omega
/-- Some letters are passed. -/
theorem RdO.drop {w : World} {X G sz o c : Nat} {xs : List Nat} (h : RdO w X G sz o c xs) (k : Nat) (hk : k ≤ xs.length) :
    RdO (w.setCell ⟨X, 0, none⟩ (.slice (some ⟨G, o + k * 2, none⟩) ((xs.drop k).length + 1) (c - k))) X G sz (o + k * 2) (c - k) (xs.drop k) := by
  refine ⟨heap_set_one h.head _, ?_, fun j v hj => ?_, h.ne, fun x hx => h.good x (List.mem_of_mem_drop hx), by have := h.few; simp; omega⟩
  · have := h.cap; simp; omega
  · rw [← lcells_drop sz k xs hk, List.getElem?_drop] at hj
    rw [World.cell?_of_block (Below.heap_setCell _ _ _ _ (fun e => h.ne e.symm)), Nat.add_assoc, Nat.mul_comm]
    exact h.row _ _ hj
theorem RdO.kept {D : Nat → Prop} {w w' : World} {X G sz o c : Nat} {xs : List Nat} (h : RdO w X G sz o c xs) (hk : Kept D w w') (hX : ¬ D X) (hG : ¬ D G) : RdO w' X G sz o c xs :=
  ⟨hk.heap h.head hX, h.cap, fun j v hj => hk.cell (h.row j v hj) hG, h.ne, h.good, h.few⟩
theorem Rd.kept {D : Nat → Prop} {w w' : World} {X G sz : Nat} {xs : List Nat} (h : Rd w X G sz xs) (hk : Kept D w w') (hX : ¬ D X) (hG : ¬ D G) : Rd w' X G sz xs := by
  obtain ⟨o, c, h⟩ := h
  exact ⟨o, c, h.kept hk hX hG⟩
theorem Rd.good {w : World} {X G sz : Nat} {xs : List Nat} (h : Rd w X G sz xs) : ∀ x ∈ xs, GoodL x := by
  obtain ⟨o, c, h⟩ := h
  exact h.good
theorem Rd.few {w : World} {X G sz : Nat} {xs : List Nat} (h : Rd w X G sz xs) : xs.length ≤ 2000 := by
  obtain ⟨o, c, h⟩ := h
  exact h.few
theorem Rd.ne {w : World} {X G sz : Nat} {xs : List Nat} (h : Rd w X G sz xs) : X ≠ G := by
  obtain ⟨o, c, h⟩ := h
  exact h.ne
theorem Rd.lt {w : World} {X G sz : Nat} {xs : List Nat} (h : Rd w X G sz xs) : X < w.heap.size ∧ G < w.heap.size := by
  obtain ⟨o, c, h⟩ := h
  exact ⟨(Array.getElem?_eq_some_iff.1 h.head).1, World.block_lt_of_cell? w _ h.next0⟩

/-! ### Parts -/
def txt (l : List UInt8) : Value := .string ⟨l.toArray⟩
/-- A part as cells, its word as that value. -/
def pcells (p : Pt) (wv : Value) : List Value := [.int .i64 p.kind, txt p.text, txt p.op, wv, .bool p.q]
def rowCells : List Pt → List Value → List Value
  | p :: ps, v :: vs => pcells p v ++ rowCells ps vs
  | _, _ => []
theorem rowCells_append : ∀ (ps : List Pt) (vs : List Value) (qs : List Pt) (us : List Value), ps.length = vs.length → rowCells (ps ++ qs) (vs ++ us) = rowCells ps vs ++ rowCells qs us
  | [], [], _, _, _ => rfl
  | p :: ps, v :: vs, qs, us, h => by
    simp only [List.cons_append, rowCells, rowCells_append ps vs qs us (by simpa using h), List.append_assoc]
  | [], _ :: _, _, _, h => by simp at h
  | _ :: _, [], _, _, h => by simp at h
theorem rowCells_length : ∀ (ps : List Pt) (vs : List Value), ps.length = vs.length → (rowCells ps vs).length = ps.length * 5
  | [], [], _ => rfl
  | p :: ps, v :: vs, h => by
    rw [rowCells, List.length_append, rowCells_length ps vs (by simpa using h), List.length_cons]
    simp only [pcells, List.length_cons, List.length_nil]; omega
  | [], _ :: _, h => by simp at h
  | _ :: _, [], h => by simp at h
theorem rowCells_get : ∀ (ps : List Pt) (vs : List Value) (j : Nat) (p : Pt) (v : Value), ps[j]? = some p → vs[j]? = some v → ps.length = vs.length → ∀ i, i < 5 → (rowCells ps vs)[j * 5 + i]? = (pcells p v)[i]?
  | [], _, _, _, _, h, _, _, _, _ => by simp at h
  | _ :: _, [], _, _, _, _, h, _, _, _ => by simp at h
  | a :: ps, b :: vs, 0, p, v, h1, h2, _, i, hi => by
    simp only [List.getElem?_cons_zero, Option.some.injEq] at h1 h2
    subst h1 h2
    rw [rowCells, Nat.zero_mul, Nat.zero_add, List.getElem?_append_left (by simp [pcells]; omega)]
  | a :: ps, b :: vs, j + 1, p, v, h1, h2, hl, i, hi => by
    simp only [List.getElem?_cons_succ] at h1 h2
    rw [rowCells, show (j + 1) * 5 + i = 5 + (j * 5 + i) by omega, List.getElem?_append_right (by simp [pcells])]
    simpa [pcells] using rowCells_get ps vs j p v h1 h2 (by simpa using hl) i hi

/-- A value that is a row of parts, in blocks of F. -/
inductive WordV (w : World) (F : Nat → Prop) : Value → List Pt → Prop
  | row (v : Value) (ps : List Pt) (vs : List Value) : w.ownsRow 0 25 5 v ps.length (rowCells ps vs) → ps.length = vs.length → (∀ g, v.ownBlock = some g → F g) →
      (∀ (j : Nat) (p : Pt) (u : Value), ps[j]? = some p → vs[j]? = some u → WordV w F u p.word) → WordV w F v ps

theorem ownsRow_same {w w' : World} {B e size n : Nat} {v : Value} {xs : List Value} (h : w.ownsRow B e size v n xs) (hk : ∀ g, v.ownBlock = some g → w'.heap[g]? = w.heap[g]?) : w'.ownsRow B e size v n xs := by
  refine ⟨h.1, ?_⟩
  rcases h.2 with hn | ⟨g, cap, cur, hv, hbg, hg, r⟩
  · exact .inl hn
  · exact .inr ⟨g, cap, cur, hv, hbg, (hk g (by rw [hv]; rfl)).trans hg, r⟩
theorem ownsRow_base {w : World} {B C e size n : Nat} {v : Value} {xs : List Value} (h : w.ownsRow B e size v n xs) (hC : ∀ g, v.ownBlock = some g → C ≤ g) : w.ownsRow C e size v n xs := by
  refine ⟨h.1, ?_⟩
  rcases h.2 with hn | ⟨g, cap, cur, hv, hbg, hg, r⟩
  · exact .inl hn
  · exact .inr ⟨g, cap, cur, hv, hC g (by rw [hv]; rfl), hg, r⟩
theorem WordV.same {w w' : World} {F : Nat → Prop} {v : Value} {ps : List Pt} (h : WordV w F v ps) (hk : ∀ g, F g → w'.heap[g]? = w.heap[g]?) : WordV w' F v ps := by
  induction h with
  | row v ps vs h1 h2 h3 _ ih => exact .row v ps vs (ownsRow_same h1 fun g hg => hk g (h3 g hg)) h2 h3 ih
theorem WordV.mono {w : World} {F F' : Nat → Prop} {v : Value} {ps : List Pt} (h : WordV w F v ps) (hF : ∀ g, F g → F' g) : WordV w F' v ps := by
  induction h with
  | row v ps vs h1 h2 h3 _ ih => exact .row v ps vs h1 h2 (fun g hg => hF g (h3 g hg)) ih
theorem WordV.nil (w : World) (F : Nat → Prop) : WordV w F (.slice none 0 0) [] :=
  .row _ [] [] (World.ownsRow_nil _ _ _ _) rfl (fun _ h => by simp [Value.ownBlock] at h) (fun _ _ _ h => by simp at h)
/-- A word in new blocks. -/
def WordN (w : World) (B : Nat) (v : Value) (ps : List Pt) : Prop := ∃ F, WordV w F v ps ∧ ∀ g, F g → B ≤ g ∧ g < w.heap.size
theorem WordN.nil (w : World) (B : Nat) : WordN w B (.slice none 0 0) [] := ⟨fun _ => False, WordV.nil _ _, fun _ h => h.elim⟩
theorem WordN.kept {D : Nat → Prop} {w w' : World} {B : Nat} {v : Value} {ps : List Pt} (h : WordN w B v ps) (hk : Kept D w w') (hD : ∀ k, B ≤ k → ¬ D k) : WordN w' B v ps := by
  obtain ⟨F, h1, h2⟩ := h
  exact ⟨F, h1.same fun g hg => hk.block g (h2 g hg).2 (hD g (h2 g hg).1), fun g hg => ⟨(h2 g hg).1, Nat.lt_of_lt_of_le (h2 g hg).2 hk.size⟩⟩
theorem WordN.base {w : World} {B C : Nat} {v : Value} {ps : List Pt} (h : WordN w B v ps) (hC : C ≤ B) : WordN w C v ps := by
  obtain ⟨F, h1, h2⟩ := h
  exact ⟨F, h1, fun g hg => ⟨Nat.le_trans hC (h2 g hg).1, (h2 g hg).2⟩⟩

/-- A row of parts that is being made, in block W, all of it at B and above. -/
structure RowO (w : World) (B W : Nat) (v : Value) (vs : List Value) (F : Nat → Prop) (ps : List Pt) : Prop where
  head : w.heap[W]? = some (.cells #[v] 89 (0, 0))
  base : B ≤ W
  own : w.ownsRow B 25 5 v ps.length (rowCells ps vs)
  len : ps.length = vs.length
  sub : ∀ (j : Nat) (p : Pt) (u : Value), ps[j]? = some p → vs[j]? = some u → WordV w F u p.word
  far : ∀ g, F g → B ≤ g ∧ g < w.heap.size ∧ g ≠ W ∧ v.ownBlock ≠ some g
  ne : v.ownBlock ≠ some W
def RowAt (w : World) (B W : Nat) (ps : List Pt) : Prop := ∃ v vs F, RowO w B W v vs F ps

theorem RowO.cell0 {w : World} {B W : Nat} {v : Value} {vs : List Value} {F : Nat → Prop} {ps : List Pt} (h : RowO w B W v vs F ps) : w.cell? ⟨W, 0, none⟩ = some v := by rw [cell_plain h.head]; rfl
theorem RowO.frozen0 {w : World} {B W : Nat} {v : Value} {vs : List Value} {F : Nat → Prop} {ps : List Pt} (h : RowO w B W v vs F ps) : w.frozen? ⟨W, 0, none⟩ = false := frozen_plain h.head 0
theorem RowO.lt {w : World} {B W : Nat} {v : Value} {vs : List Value} {F : Nat → Prop} {ps : List Pt} (h : RowO w B W v vs F ps) : W < w.heap.size := (Array.getElem?_eq_some_iff.1 h.head).1
theorem RowO.kept {D : Nat → Prop} {w w' : World} {B W : Nat} {v : Value} {vs : List Value} {F : Nat → Prop} {ps : List Pt} (h : RowO w B W v vs F ps) (hk : Kept D w w') (hD : ∀ k, B ≤ k → k < w.heap.size → ¬ D k) : RowO w' B W v vs F ps where
  head := hk.heap h.head (hD W h.base h.lt)
  base := h.base
  own := ownsRow_same h.own fun g hg => hk.block g (World.ownsRow.lt h.own g hg).2 (hD g (World.ownsRow.lt h.own g hg).1 (World.ownsRow.lt h.own g hg).2)
  len := h.len
  sub := fun j p u hp hu => (h.sub j p u hp hu).same fun g hg => hk.block g (h.far g hg).2.1 (hD g (h.far g hg).1 (h.far g hg).2.1)
  far := fun g hg => ⟨(h.far g hg).1, Nat.lt_of_lt_of_le (h.far g hg).2.1 hk.size, (h.far g hg).2.2⟩
  ne := h.ne
theorem RowAt.kept {D : Nat → Prop} {w w' : World} {B W : Nat} {ps : List Pt} (h : RowAt w B W ps) (hk : Kept D w w') (hD : ∀ k, B ≤ k → k < w.heap.size → ¬ D k) : RowAt w' B W ps := by
  obtain ⟨v, vs, F, h⟩ := h
  exact ⟨v, vs, F, h.kept hk hD⟩
theorem RowAt.lt {w : World} {B W : Nat} {ps : List Pt} (h : RowAt w B W ps) : B ≤ W ∧ W < w.heap.size := by
  obtain ⟨v, vs, F, h⟩ := h
  exact ⟨h.base, h.lt⟩
/-- A new row. -/
theorem RowAt.new (w : World) : RowAt (w.alloc (.cells #[.slice none 0 0] 89)) w.heap.size w.heap.size [] :=
  ⟨_, [], fun _ => False, ⟨heap_alloc_new w _, Nat.le_refl _, World.ownsRow_nil _ _ _ _, rfl, fun _ _ _ h => by simp at h, fun _ h => h.elim, by simp [Value.ownBlock]⟩⟩
/-- What is made is a word. -/
theorem RowO.word {w : World} {B W : Nat} {v : Value} {vs : List Value} {F : Nat → Prop} {ps : List Pt} (h : RowO w B W v vs F ps) : WordN w B v ps :=
  ⟨fun g => F g ∨ v.ownBlock = some g, .row v ps vs (ownsRow_base h.own fun _ _ => Nat.zero_le _) h.len (fun _ hg => .inr hg) (fun j p u hp hu => (h.sub j p u hp hu).mono fun _ h => .inl h), fun g hg => hg.elim (fun hg => ⟨(h.far g hg).1, (h.far g hg).2.1⟩) fun hg => World.ownsRow.lt h.own g hg⟩
end Go.Proofs.YtpifbpfmjmcchaaDoor
