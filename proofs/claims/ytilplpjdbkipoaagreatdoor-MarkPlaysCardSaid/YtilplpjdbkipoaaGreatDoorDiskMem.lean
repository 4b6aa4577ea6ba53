/-
  Proved: how a disk lies in memory, and what keeps it there. No conditions but those that each says.
-/
import Derived.Test.YtilplpjdbkipoaaGreatDoorDiskMath
import Derived.Test.YtilplpjdbkipoaaGreatDoorBytes
import Derived.Test.YtilplpjdbkipoaaGreatDoorRows
import Derived.Deep.MidRow
import Derived.Deep.AppendLies
import Derived.Lib.Hide
namespace Go.Proofs.YtilplpjdbkipoaaGreatDoor
open Go Go.RowKit DiskMath NetMem

/-- What a call may turn: of the blocks that there were none but those of D. -/
structure Kept (D : Nat → Prop) (w w' : World) : Prop where
  os : w'.os = w.os
  tape : w'.tape = w.tape
  output : w'.output = w.output
  size : w.heap.size ≤ w'.heap.size
  block : ∀ k, k < w.heap.size → ¬ D k → w'.heap[k]? = w.heap[k]?

theorem Kept.refl (D : Nat → Prop) (w : World) : Kept D w w := ⟨rfl, rfl, rfl, Nat.le_refl _, fun _ _ _ => rfl⟩
theorem Kept.mono {D D' : Nat → Prop} {w w' : World} (h : Kept D w w') (hD : ∀ k, k < w.heap.size → D k → D' k) : Kept D' w w' :=
  ⟨h.os, h.tape, h.output, h.size, fun k hk hn => h.block k hk fun hd => hn (hD k hk hd)⟩
theorem Kept.trans {D D' : Nat → Prop} {a b c : World} (h : Kept D a b) (k : Kept D' b c) (hD : ∀ i, D' i → D i ∨ a.heap.size ≤ i) : Kept D a c :=
  ⟨k.os.trans h.os, k.tape.trans h.tape, k.output.trans h.output, Nat.le_trans h.size k.size, fun i hi hn =>
    (k.block i (Nat.lt_of_lt_of_le hi h.size) fun hd => (hD i hd).elim hn fun h' => by omega).trans (h.block i hi hn)⟩
theorem Kept.drew {D : Nat → Prop} {a w : World} (h : Kept D a w) : Kept D a w.drew := ⟨h.os, h.tape, h.output, h.size, h.block⟩
theorem Kept.alloc {D : Nat → Prop} {a w : World} (h : Kept D a w) (o : Obj) : Kept D a (w.alloc o) :=
  ⟨h.os, h.tape, h.output, Nat.le_trans h.size (by simp), fun k hk hn => (Below.heap_alloc w o k (Nat.lt_of_lt_of_le hk h.size)).trans (h.block k hk hn)⟩
theorem Kept.setCell {D : Nat → Prop} {a w : World} (h : Kept D a w) {p : Addr} (hp : D p.block ∨ a.heap.size ≤ p.block) (u : Value) : Kept D a (w.setCell p u) :=
  ⟨h.os, h.tape, h.output, by have := h.size; simpa [World.setCell] using this, fun k hk hn => (Below.heap_setCell w p u k (fun e => by subst e; exact hp.elim hn fun h' => by omega)).trans (h.block k hk hn)⟩
theorem Kept.setCells {D : Nat → Prop} {a w : World} (h : Kept D a w) {b : Nat} (hp : D b ∨ a.heap.size ≤ b) (o : Nat) (vs : List Value) : Kept D a (w.setCells b o vs) := by
  obtain ⟨h1, h2, h3, h4, h5⟩ := setCells_same b vs o w
  exact ⟨h1.trans h.os, h2.trans h.tape, h3.trans h.output, by have := h.size; omega, fun k hk hn => (h5 k (fun e => by subst e; exact hp.elim hn fun h' => by omega)).trans (h.block k hk hn)⟩
theorem Kept.grown {D : Nat → Prop} {a w w' : World} {row : Option Nat} (h : Kept D a w) (hg : w.grownBy w' row) (hr : ∀ k, row = some k → D k ∨ a.heap.size ≤ k) : Kept D a w' :=
  ⟨hg.os.trans h.os, hg.tape.trans h.tape, hg.output.trans h.output, Nat.le_trans h.size hg.size, fun k hk hn =>
    (hg.block k (Nat.lt_of_lt_of_le hk h.size) (fun e => (hr k e.symm).elim hn fun h' => by omega)).trans (h.block k hk hn)⟩
theorem Kept.below {D : Nat → Prop} {w w' : World} (h : Kept D w w') {B : Nat} (hB : ∀ k, D k → B ≤ k) (hw : B ≤ w.heap.size) : Below B w w' :=
  ⟨h.os, h.tape, h.output, h.size, fun k hk => h.block k (by omega) fun hd => by have := hB k hd; omega⟩
theorem Kept.of_below {D : Nat → Prop} {w w' : World} (h : Below w.heap.size w w') : Kept D w w' := ⟨h.os, h.tape, h.output, h.size, fun k hk _ => h.block k hk⟩
theorem Kept.cell {D : Nat → Prop} {w w' : World} (h : Kept D w w') {a : Addr} {v : Value} (hc : w.cell? a = some v) (hn : ¬ D a.block) : w'.cell? a = some v :=
  (World.cell?_of_block (h.block a.block (World.block_lt_of_cell? w a hc) hn)).trans hc

/-- The disk's head. -/
def headV (s : Nat) (pv lv : Value) (d : Dk) : Array Value :=
  #[.slice (some ⟨s, 0, none⟩) d.s.length d.s.length, pv, .int .i64 (d.n : Int), .bool d.armed, .int .i64 d.at_, lv, .bool d.down]

/-- A block of cells. -/
def Laid (w : World) (k : Nat) : Prop := ∃ cs t fr, w.heap[k]? = some (.cells cs t fr)
theorem Laid.lt {w : World} {k : Nat} (h : Laid w k) : k < w.heap.size := by
  obtain ⟨cs, t, fr, h⟩ := h
  exact (Array.getElem?_eq_some_iff.1 h).1
theorem Laid.keep {w w' : World} {k : Nat} (h : Laid w k) (hb : w'.heap[k]? = w.heap[k]?) : Laid w' k := by
  obtain ⟨cs, t, fr, h⟩ := h
  exact ⟨cs, t, fr, hb.trans h⟩
theorem Laid.setCell {w : World} {k : Nat} (h : Laid w k) (p : Addr) (v : Value) : Laid (w.setCell p v) k := by
  by_cases e : k = p.block
  · obtain ⟨cs, t, fr, h⟩ := h
    obtain ⟨b, o, q⟩ := p
    simp only at e
    subst e
    exact ⟨_, t, fr, by simp [World.setCell, Array.getElem?_modify, h]; rfl⟩
  · exact h.keep (Below.heap_setCell w p v k e)
theorem Laid.setCells {k : Nat} (b : Nat) : ∀ (vs : List Value) (o : Nat) {w : World}, Laid w k → Laid (w.setCells b o vs) k
  | [], _, _, h => h
  | v :: r, o, _, h => Laid.setCells b r (o + 1) (h.setCell ⟨b, o, none⟩ v)
theorem Laid.new (w : World) (cs : Array Value) (t : TypeId) : Laid (w.alloc (.cells cs t)) w.heap.size := ⟨cs, t, (0, 0), heap_alloc_new w _⟩
theorem Laid.alloc {w : World} {k : Nat} (h : Laid w k) (o : Obj) : Laid (w.alloc o) k := h.keep (Below.heap_alloc w o k h.lt)

/-- A sector's bytes lie in block s. -/
def SecAt (w : World) (s : Nat) (l : Secs) : Prop :=
  (∀ i (h : i < l.length), w.rangeAt s (i * 32) (Lib.byteCells l[i].1) ∧ w.rangeAt s (i * 32 + 16) (Lib.byteCells l[i].2)) ∧ w.there s 0 (32 * l.length) ∧
    (∀ x ∈ l, x.1.length = 16 ∧ x.2.length = 16) ∧ l.length ≤ 4000 ∧ Laid w s

/-- A disk, by its blocks. -/
structure DiskM (w : World) (g s : Nat) (pv lv : Value) (d : Dk) : Prop where
  head : w.heap[g]? = some (.cells (headV s pv lv d) 51 (0, 0))
  secs : SecAt w s d.s
  pend : w.ownsRow 0 89 17 pv d.p.length (pcells d.p)
  pok : ∀ x ∈ d.p, x.1 < d.s.length ∧ x.2.length = 16
  left : w.ownsRow 0 59 1 lv d.left.length (d.left.map (Value.int .i64))
  gs : g ≠ s
  pg : pv.ownBlock ≠ some g
  ps : pv.ownBlock ≠ some s
  lg : lv.ownBlock ≠ some g
  ls : lv.ownBlock ≠ some s
  lp : ∀ k, lv.ownBlock = some k → pv.ownBlock ≠ some k

/-- The blocks of a disk. -/
def Blk (g s : Nat) (pv lv : Value) (k : Nat) : Prop := k = g ∨ k = s ∨ pv.ownBlock = some k ∨ lv.ownBlock = some k

/-- A disk, whose blocks are among D's. -/
def DiskAt (w : World) (D : Nat → Prop) (p : Value) (d : Dk) : Prop :=
  ∃ g s pv lv, p = .pointer (some ⟨g, 0, none⟩) ∧ DiskM w g s pv lv d ∧ (∀ k, Blk g s pv lv k → D k) ∧ ∀ k, D k → k < w.heap.size

theorem rangeAt_block {w w' : World} {b o : Nat} {cs : List Value} (h : w.rangeAt b o cs) (hb : w'.heap[b]? = w.heap[b]?) : w'.rangeAt b o cs :=
  fun j v hv => (World.cell?_of_block (a := ⟨b, o + j, none⟩) hb).trans (h j v hv)
theorem there_block {w w' : World} {b o n : Nat} (h : w.there b o n) (hb : w'.heap[b]? = w.heap[b]?) : w'.there b o n := fun j hj =>
  ⟨by rw [World.cell?_of_block (w := w) (a := ⟨b, o + j, none⟩) hb]; exact (h j hj).1, by rw [World.frozen?_of_block (w := w) (a := ⟨b, o + j, none⟩) hb]; exact (h j hj).2⟩
theorem there_part {w : World} {b o n : Nat} (h : w.there b 0 n) (m : Nat) (hm : o + m ≤ n) : w.there b o m := fun j hj => by
  have := h (o + j) (by omega)
  rwa [Nat.zero_add] at this
theorem ownsRow_block {w w' : World} {B : Nat} {e : TypeId} {size : Nat} {v : Value} {n : Nat} {xs : List Value} (h : w.ownsRow B e size v n xs) (hk : ∀ k, v.ownBlock = some k → w'.heap[k]? = w.heap[k]?) : w'.ownsRow B e size v n xs := by
  refine ⟨h.1, ?_⟩
  rcases h.2 with hn | ⟨g, cap, cur, rfl, hb, hgg, rest⟩
  · exact .inl hn
  · exact .inr ⟨g, cap, cur, rfl, hb, (hk g rfl).trans hgg, rest⟩
theorem SecAt.keep {w w' : World} {s : Nat} {l : Secs} (h : SecAt w s l) (hb : w'.heap[s]? = w.heap[s]?) (_hs : w.heap.size ≤ w'.heap.size) : SecAt w' s l :=
  ⟨fun i hi => ⟨rangeAt_block (h.1 i hi).1 hb, rangeAt_block (h.1 i hi).2 hb⟩, there_block h.2.1 hb, h.2.2.1, h.2.2.2.1, h.2.2.2.2.keep hb⟩
theorem DiskM.keep {w w' : World} {g s : Nat} {pv lv : Value} {d : Dk} (h : DiskM w g s pv lv d) (hb : ∀ k, Blk g s pv lv k → w'.heap[k]? = w.heap[k]?) (hs : w.heap.size ≤ w'.heap.size) : DiskM w' g s pv lv d :=
  { h with
    head := (hb g (.inl rfl)).trans h.head
    secs := h.secs.keep (hb s (.inr (.inl rfl))) hs
    pend := ownsRow_block h.pend fun k hk => hb k (.inr (.inr (.inl hk)))
    left := ownsRow_block h.left fun k hk => hb k (.inr (.inr (.inr hk))) }
theorem DiskM.glt {w : World} {g s : Nat} {pv lv : Value} {d : Dk} (h : DiskM w g s pv lv d) : g < w.heap.size := (Array.getElem?_eq_some_iff.1 h.head).1
theorem DiskM.lt {w : World} {g s : Nat} {pv lv : Value} {d : Dk} (h : DiskM w g s pv lv d) {k : Nat} (hk : Blk g s pv lv k) : k < w.heap.size := by
  rcases hk with rfl | rfl | hk | hk
  · exact h.glt
  · exact h.secs.2.2.2.2.lt
  · exact (h.pend.lt k hk).2
  · exact (h.left.lt k hk).2
/-- It stays while none of its blocks is turned. -/
theorem DiskM.far {w w' : World} {g s : Nat} {pv lv : Value} {d : Dk} {D : Nat → Prop} (h : DiskM w g s pv lv d) (hk : Kept D w w') (hn : ∀ k, Blk g s pv lv k → ¬ D k) : DiskM w' g s pv lv d :=
  h.keep (fun k hb => hk.block k (h.lt hb) (hn k hb)) hk.size
theorem DiskAt.far {w w' : World} {D E : Nat → Prop} {p : Value} {d : Dk} (h : DiskAt w D p d) (hk : Kept E w w') (hn : ∀ k, D k → ¬ E k) : DiskAt w' D p d := by
  obtain ⟨g, s, pv, lv, rfl, hm, hD, hlt⟩ := h
  exact ⟨g, s, pv, lv, rfl, hm.far hk (fun k hb => hn k (hD k hb)), hD, fun k hd => Nat.lt_of_lt_of_le (hlt k hd) hk.size⟩
theorem DiskAt.below {w w' : World} {D : Nat → Prop} {p : Value} {d : Dk} (h : DiskAt w D p d) (hb : Below w.heap.size w w') : DiskAt w' D p d :=
  h.far (E := fun _ => False) (Kept.of_below hb) fun _ _ h => h

/-! ### The head's cells -/
theorem DiskM.cells {w : World} {g s : Nat} {pv lv : Value} {d : Dk} (h : DiskM w g s pv lv d) :
    w.cell? ⟨g, 0, none⟩ = some (.slice (some ⟨s, 0, none⟩) d.s.length d.s.length) ∧ w.cell? ⟨g, 1, none⟩ = some pv ∧ w.cell? ⟨g, 2, none⟩ = some (.int .i64 (d.n : Int)) ∧ w.cell? ⟨g, 3, none⟩ = some (.bool d.armed) ∧
      w.cell? ⟨g, 4, none⟩ = some (.int .i64 d.at_) ∧ w.cell? ⟨g, 5, none⟩ = some lv ∧ w.cell? ⟨g, 6, none⟩ = some (.bool d.down) ∧ ∀ j, w.frozen? ⟨g, j, none⟩ = false := by
  have hc := fun j => cell_of_row w g j _ _ _ h.head
  refine ⟨by rw [hc]; rfl, by rw [hc]; rfl, by rw [hc]; rfl, by rw [hc]; rfl, by rw [hc]; rfl, by rw [hc]; rfl, by rw [hc]; rfl, fun j => ?_⟩
  simp [World.frozen?, h.head]

theorem heap_set {w : World} {g : Nat} {cs : Array Value} {t : TypeId} {fr : Nat × Nat} (h : w.heap[g]? = some (.cells cs t fr)) (j : Nat) (v : Value) : (w.setCell ⟨g, j, none⟩ v).heap[g]? = some (.cells (cs.setIfInBounds j v) t fr) := by
  simp [World.setCell, Array.getElem?_modify, h]
theorem heap_setCell_ne (w : World) (a : Addr) (v : Value) (k : Nat) (h : k ≠ a.block) : (w.setCell a v).heap[k]? = w.heap[k]? := Below.heap_setCell w a v k h

/-- A cell of the head is turned: what it says then. -/
theorem DiskM.turn {w : World} {g s : Nat} {pv lv : Value} {d : Dk} (h : DiskM w g s pv lv d) (j : Nat) (v : Value) (d' : Dk) (hs : d'.s = d.s) (hp : d'.p = d.p) (hl : d'.left = d.left)
    (hv : (headV s pv lv d).setIfInBounds j v = headV s pv lv d') : DiskM (w.setCell ⟨g, j, none⟩ v) g s pv lv d' := by
  have hsz : w.heap.size ≤ (w.setCell ⟨g, j, none⟩ v).heap.size := by simp [World.setCell]
  have hb : ∀ k, k ≠ g → (w.setCell ⟨g, j, none⟩ v).heap[k]? = w.heap[k]? := fun k hk => heap_setCell_ne w ⟨g, j, none⟩ v k hk
  exact { head := by rw [heap_set h.head, hv]
          secs := by rw [hs]; exact h.secs.keep (hb s (Ne.symm h.gs)) hsz
          pend := by rw [hp]; exact ownsRow_block h.pend fun k hk => hb k (fun e => h.pg (by rw [← e]; exact hk))
          pok := by rw [hp, hs]; exact h.pok
          left := by rw [hl]; exact ownsRow_block h.left fun k hk => hb k (fun e => h.lg (by rw [← e]; exact hk))
          gs := h.gs, pg := h.pg, ps := h.ps, lg := h.lg, ls := h.ls, lp := h.lp }
/-- What is pending is forgotten. -/
theorem DiskM.forget {w : World} {g s : Nat} {pv lv : Value} {d : Dk} (h : DiskM w g s pv lv d) : DiskM (w.setCell ⟨g, 1, none⟩ (.slice none 0 0)) g s (.slice none 0 0) lv { d with p := [] } := by
  have hsz : w.heap.size ≤ (w.setCell ⟨g, 1, none⟩ (.slice none 0 0)).heap.size := by simp [World.setCell]
  have hb : ∀ k, k ≠ g → (w.setCell ⟨g, 1, none⟩ (.slice none 0 0)).heap[k]? = w.heap[k]? := fun k hk => heap_setCell_ne w ⟨g, 1, none⟩ _ k hk
  exact { head := by rw [heap_set h.head]; rfl
          secs := h.secs.keep (hb s (Ne.symm h.gs)) hsz
          pend := World.ownsRow_nil _ _ _ _
          pok := fun x hx => by cases hx
          left := ownsRow_block h.left fun k hk => hb k (fun e => h.lg (by rw [← e]; exact hk))
          gs := h.gs, pg := by simp [Value.ownBlock], ps := by simp [Value.ownBlock], lg := h.lg, ls := h.ls, lp := fun k _ => by simp [Value.ownBlock] }

/-! ### The sectors -/
theorem there_cells {w : World} {b o n : Nat} (h : w.there b o n) (b' o' : Nat) (vs : List Value) : (w.setCells b' o' vs).there b o n := World.there_setCells h b' o' vs

/-- Sixteen cells of sector i are written: the flushed ones. -/
theorem SecAt.put1 {w : World} {s : Nat} {l : Secs} (h : SecAt w s l) (i : Nat) (hi : i < l.length) (b : List UInt8) (hb : b.length = 16) : SecAt (w.setCells s (i * 32) (Lib.byteCells b)) s (l.modify i fun y => (b, y.2)) := by
  obtain ⟨h1, h2, h3, h4, h5⟩ := h
  have ht : w.there s (i * 32) (Lib.byteCells b).length := there_part h2 _ (by rw [bl, hb]; omega)
  refine ⟨fun j hj => ?_, ?_, fun x hx => ?_, by simpa using h4, h5.setCells s _ _⟩
  · rw [List.length_modify] at hj
    have hl := h3 _ (List.getElem_mem hj)
    rw [List.getElem_modify]
    by_cases e : i = j
    · subst e
      rw [if_pos rfl]
      exact ⟨World.rangeAt_setCells_same _ _ _ _ ht, World.rangeAt_setCells_apart (h1 i hj).2 _ _ _ (by rw [bl, bl, hb]; omega)⟩
    · rw [if_neg e]
      exact ⟨World.rangeAt_setCells_apart (h1 j hj).1 _ _ _ (by rw [bl, bl, hb, hl.1]; omega), World.rangeAt_setCells_apart (h1 j hj).2 _ _ _ (by rw [bl, bl, hb, hl.2]; omega)⟩
  · rw [List.length_modify]; exact World.there_setCells h2 _ _ _
  · obtain ⟨j, hj, rfl⟩ := List.getElem_of_mem hx
    rw [List.length_modify] at hj
    rw [List.getElem_modify]
    have hl := h3 _ (List.getElem_mem hj)
    split
    · exact ⟨hb, hl.2⟩
    · exact hl
/-- The ones that were written last. -/
theorem SecAt.put2 {w : World} {s : Nat} {l : Secs} (h : SecAt w s l) (i : Nat) (hi : i < l.length) (b : List UInt8) (hb : b.length = 16) : SecAt (w.setCells s (i * 32 + 16) (Lib.byteCells b)) s (l.modify i fun y => (y.1, b)) := by
  obtain ⟨h1, h2, h3, h4, h5⟩ := h
  have ht : w.there s (i * 32 + 16) (Lib.byteCells b).length := there_part h2 _ (by rw [bl, hb]; omega)
  refine ⟨fun j hj => ?_, ?_, fun x hx => ?_, by simpa using h4, h5.setCells s _ _⟩
  · rw [List.length_modify] at hj
    have hl := h3 _ (List.getElem_mem hj)
    rw [List.getElem_modify]
    by_cases e : i = j
    · subst e
      rw [if_pos rfl]
      exact ⟨World.rangeAt_setCells_apart (h1 i hj).1 _ _ _ (by rw [bl, bl, hb, hl.1]; omega), World.rangeAt_setCells_same _ _ _ _ ht⟩
    · rw [if_neg e]
      exact ⟨World.rangeAt_setCells_apart (h1 j hj).1 _ _ _ (by rw [bl, bl, hb, hl.1]; omega), World.rangeAt_setCells_apart (h1 j hj).2 _ _ _ (by rw [bl, bl, hb, hl.2]; omega)⟩
  · rw [List.length_modify]; exact World.there_setCells h2 _ _ _
  · obtain ⟨j, hj, rfl⟩ := List.getElem_of_mem hx
    rw [List.length_modify] at hj
    rw [List.getElem_modify]
    have hl := h3 _ (List.getElem_mem hj)
    split
    · exact ⟨hl.1, hb⟩
    · exact hl
end Go.Proofs.YtilplpjdbkipoaaGreatDoor
