/-
  Proved: how the statements' own disk lies in memory, and what keeps it there. No conditions but those that each says.
-/
import Derived.Test.YtilplpjdbkipoaaGreatDoorSpanMem
import Derived.Test.YtilplpjdbkipoaaGreatDoorDiskWf
import Derived.Test.YtilplpjdbkipoaaGreatDoorDiskCalls
namespace Go.Proofs.YtilplpjdbkipoaaGreatDoor
open Go Go.RowKit DiskMath NetMem SpanMath

def rHead (sv pv : Value) (at_ : Int) (lv : Value) (n : Nat) (ar dn : Bool) : Array Value := #[sv, pv, .int .i64 at_, lv, .int .i64 (n : Int), .bool ar, .bool dn]
/-- The sectors' slices. -/
def svals (sb : List Nat) : List Value := sb.map fun b => .slice (some ⟨b, 0, none⟩) 16 16
/-- What is pending: the row's value, the sector, the bytes. -/
abbrev Pend := List (Value × Nat × List UInt8)
def qcell (x : Value × Nat × List UInt8) : List Value := [.int .i64 (x.2.1 : Int), x.1]
def qcells (ps : Pend) : List Value := ps.flatMap qcell
/-- The head's words. -/
def HeadOk (w0 : World) (d : Dk) (at_ : Int) (lv : Value) (ar : Bool) : Prop := ∃ left : List Int, (d.down = false → ar = d.armed ∧ (d.armed = true → at_ = d.at_ ∧ left = d.left)) ∧ KeepsAt w0 lv left

structure RefM (w0 w : World) (g : Nat) (sv pv : Value) (sb : List Nat) (ps : Pend) (d : Dk) : Prop where
  head : ∃ at_ lv ar, w.heap[g]? = some (.cells (rHead sv pv at_ lv d.n ar d.down) 55 (0, 0)) ∧ HeadOk w0 d at_ lv ar
  srow : w.ownsRow 0 56 1 sv sb.length (svals sb)
  slen : sb.length = d.s.length
  smax : d.s.length ≤ 4000
  sec : ∀ i (h : i < sb.length), w.rangeAt sb[i] 0 (Lib.byteCells (fl d i)) ∧ w.there sb[i] 0 16 ∧ (fl d i).length = 16
  prow : w.ownsRow 0 116 2 pv ps.length (qcells ps)
  pok : d.p = ps.map (·.2)
  pown : ∀ x ∈ ps, NetMem.Own w 0 x.1 x.2.2 ∧ x.2.1 < d.s.length ∧ x.2.2.length = 16
  nd : ∀ i j (hi : i < sb.length) (hj : j < sb.length), sb[i] = sb[j] → i = j
  gs : ∀ b ∈ sb, b ≠ g ∧ sv.ownBlock ≠ some b ∧ pv.ownBlock ≠ some b ∧ b < w.heap.size
  sg : sv.ownBlock ≠ some g
  pg : pv.ownBlock ≠ some g
  sp : ∀ k, sv.ownBlock = some k → pv.ownBlock ≠ some k
  qo : ∀ x ∈ ps, ∀ k, x.1.ownBlock = some k → k ≠ g ∧ sv.ownBlock ≠ some k ∧ pv.ownBlock ≠ some k ∧ k ∉ sb

def RBlk (g : Nat) (sv pv : Value) (sb : List Nat) (ps : Pend) (k : Nat) : Prop := k = g ∨ sv.ownBlock = some k ∨ pv.ownBlock = some k ∨ k ∈ sb ∨ ∃ x ∈ ps, x.1.ownBlock = some k
def RefAt (w0 w : World) (D : Nat → Prop) (p : Value) (d : Dk) : Prop :=
  ∃ g sv pv sb ps, p = .pointer (some ⟨g, 0, none⟩) ∧ RefM w0 w g sv pv sb ps d ∧ Wf d ∧ (∀ k, RBlk g sv pv sb ps k → D k) ∧ (∀ k, D k → w0.heap.size ≤ k ∧ k < w.heap.size) ∧ Below w0.heap.size w0 w

section
variable {w0 w w' : World} {g : Nat} {sv pv : Value} {sb : List Nat} {ps : Pend} {d : Dk}

theorem RefM.glt (h : RefM w0 w g sv pv sb ps d) : g < w.heap.size := by
  obtain ⟨at_, lv, ar, h1, -⟩ := h.head
  exact (Array.getElem?_eq_some_iff.1 h1).1
theorem RefM.lt (h : RefM w0 w g sv pv sb ps d) {k : Nat} (hk : RBlk g sv pv sb ps k) : k < w.heap.size := by
  rcases hk with rfl | hk | hk | hk | ⟨x, hx, hk⟩
  · exact h.glt
  · exact (h.srow.lt k hk).2
  · exact (h.prow.lt k hk).2
  · exact (h.gs k hk).2.2.2
  · exact ((h.pown x hx).1.lt k hk).2
theorem RefM.keep (h : RefM w0 w g sv pv sb ps d) (hb : ∀ k, RBlk g sv pv sb ps k → w'.heap[k]? = w.heap[k]?) (hs : w.heap.size ≤ w'.heap.size) : RefM w0 w' g sv pv sb ps d :=
  { h with
    head := by
      obtain ⟨at_, lv, ar, h1, h2⟩ := h.head
      exact ⟨at_, lv, ar, (hb g (.inl rfl)).trans h1, h2⟩
    srow := ownsRow_block h.srow fun k hk => hb k (.inr (.inl hk))
    prow := ownsRow_block h.prow fun k hk => hb k (.inr (.inr (.inl hk)))
    sec := fun i hi => ⟨rangeAt_block (h.sec i hi).1 (hb _ (.inr (.inr (.inr (.inl (List.getElem_mem hi)))))), there_block (h.sec i hi).2.1 (hb _ (.inr (.inr (.inr (.inl (List.getElem_mem hi)))))), (h.sec i hi).2.2⟩
    pown := fun x hx => ⟨(h.pown x hx).1.keep hs fun k hk => hb k (.inr (.inr (.inr (.inr ⟨x, hx, hk⟩)))), (h.pown x hx).2⟩
    gs := fun b hb' => ⟨(h.gs b hb').1, (h.gs b hb').2.1, (h.gs b hb').2.2.1, Nat.lt_of_lt_of_le (h.gs b hb').2.2.2 hs⟩ }
theorem RefM.far {D : Nat → Prop} (h : RefM w0 w g sv pv sb ps d) (hk : Kept D w w') (hn : ∀ k, RBlk g sv pv sb ps k → ¬ D k) : RefM w0 w' g sv pv sb ps d :=
  h.keep (fun k hb => hk.block k (h.lt hb) (hn k hb)) hk.size
theorem RefM.below (h : RefM w0 w g sv pv sb ps d) (hb : Below w.heap.size w w') : RefM w0 w' g sv pv sb ps d :=
  h.far (D := fun _ => False) (Kept.of_below hb) fun _ _ h => h

/-! ### The head's cells -/
theorem RefM.cells (h : RefM w0 w g sv pv sb ps d) : ∃ at_ lv ar, HeadOk w0 d at_ lv ar ∧ w.heap[g]? = some (.cells (rHead sv pv at_ lv d.n ar d.down) 55 (0, 0)) ∧
    w.cell? ⟨g, 0, none⟩ = some sv ∧ w.cell? ⟨g, 1, none⟩ = some pv ∧ w.cell? ⟨g, 2, none⟩ = some (.int .i64 at_) ∧ w.cell? ⟨g, 3, none⟩ = some lv ∧ w.cell? ⟨g, 4, none⟩ = some (.int .i64 (d.n : Int)) ∧
      w.cell? ⟨g, 5, none⟩ = some (.bool ar) ∧ w.cell? ⟨g, 6, none⟩ = some (.bool d.down) ∧ ∀ j, w.frozen? ⟨g, j, none⟩ = false := by
  obtain ⟨at_, lv, ar, h1, h2⟩ := h.head
  have hc := fun j => cell_of_row w g j _ _ _ h1
  refine ⟨at_, lv, ar, h2, h1, by rw [hc]; rfl, by rw [hc]; rfl, by rw [hc]; rfl, by rw [hc]; rfl, by rw [hc]; rfl, by rw [hc]; rfl, by rw [hc]; rfl, fun j => ?_⟩
  simp [World.frozen?, h1]

/-- The head is another one. -/
theorem RefM.rehead (h : RefM w0 w g sv pv sb ps d) (hb : ∀ k, k ≠ g → w'.heap[k]? = w.heap[k]?) (hsz : w.heap.size ≤ w'.heap.size) {d' : Dk} (hs : ∀ i, i < d.s.length → fl d' i = fl d i) (hlen : d'.s.length = d.s.length) (hp : d'.p = d.p)
    (hh : ∃ at_ lv ar, w'.heap[g]? = some (.cells (rHead sv pv at_ lv d'.n ar d'.down) 55 (0, 0)) ∧ HeadOk w0 d' at_ lv ar) : RefM w0 w' g sv pv sb ps d' :=
  { head := hh
    srow := ownsRow_block h.srow fun k hk => hb k fun e => h.sg (by rw [hk, e])
    slen := h.slen.trans hlen.symm
    smax := by rw [hlen]; exact h.smax
    sec := fun i hi => by
      have hn := hb sb[i] (h.gs _ (List.getElem_mem hi)).1
      rw [hs i (by rw [← h.slen]; exact hi)]
      exact ⟨rangeAt_block (h.sec i hi).1 hn, there_block (h.sec i hi).2.1 hn, (h.sec i hi).2.2⟩
    prow := ownsRow_block h.prow fun k hk => hb k fun e => h.pg (by rw [hk, e])
    pok := hp.trans h.pok
    pown := fun x hx => ⟨(h.pown x hx).1.keep hsz fun k hk => hb k (h.qo x hx k hk).1, by rw [hlen]; exact (h.pown x hx).2⟩
    nd := h.nd
    gs := fun b hb' => ⟨(h.gs b hb').1, (h.gs b hb').2.1, (h.gs b hb').2.2.1, Nat.lt_of_lt_of_le (h.gs b hb').2.2.2 hsz⟩
    sg := h.sg, pg := h.pg, sp := h.sp, qo := h.qo }
/-- .. and what was pending is forgotten. -/
theorem RefM.redrop (h : RefM w0 w g sv pv sb ps d) (hb : ∀ k, k ≠ g → w'.heap[k]? = w.heap[k]?) (hsz : w.heap.size ≤ w'.heap.size) {d' : Dk} (hs : ∀ i, i < d.s.length → fl d' i = fl d i) (hlen : d'.s.length = d.s.length) (hp : d'.p = [])
    (hh : ∃ at_ lv ar, w'.heap[g]? = some (.cells (rHead sv (.slice none 0 0) at_ lv d'.n ar d'.down) 55 (0, 0)) ∧ HeadOk w0 d' at_ lv ar) : RefM w0 w' g sv (.slice none 0 0) sb [] d' :=
  { head := hh
    srow := ownsRow_block h.srow fun k hk => hb k fun e => h.sg (by rw [hk, e])
    slen := h.slen.trans hlen.symm
    smax := by rw [hlen]; exact h.smax
    sec := fun i hi => by
      have hn := hb sb[i] (h.gs _ (List.getElem_mem hi)).1
      rw [hs i (by rw [← h.slen]; exact hi)]
      exact ⟨rangeAt_block (h.sec i hi).1 hn, there_block (h.sec i hi).2.1 hn, (h.sec i hi).2.2⟩
    prow := World.ownsRow_nil _ _ _ _
    pok := hp
    pown := fun x hx => (List.not_mem_nil hx).elim
    nd := h.nd
    gs := fun b hb' => ⟨(h.gs b hb').1, (h.gs b hb').2.1, by simp [Value.ownBlock], Nat.lt_of_lt_of_le (h.gs b hb').2.2.2 hsz⟩
    sg := h.sg, pg := by simp [Value.ownBlock], sp := fun k _ => by simp [Value.ownBlock], qo := fun x hx => (List.not_mem_nil hx).elim }

/-! ### A sector is written, its first bytes -/
theorem RefM.tear (h : RefM w0 w g sv pv sb ps d) (i : Nat) (hi : i < sb.length) (b : List UInt8) (hb : b.length = 16) (k : Nat) (hk : k ≤ 16) {s' : Secs} (hlen : s'.length = d.s.length)
    (hs1 : fl { d with s := s' } i = b.take k ++ (fl d i).drop k) (hs2 : ∀ j, j ≠ i → fl { d with s := s' } j = fl d j) :
    RefM w0 (w.setCells sb[i] 0 (Lib.byteCells (b.take k))) g sv pv sb ps { d with s := s' } := by
  have hbb : ∀ j, j ≠ sb[i] → (w.setCells sb[i] 0 (Lib.byteCells (b.take k))).heap[j]? = w.heap[j]? := (setCells_same sb[i] _ _ _).2.2.2.2
  have hsz : (w.setCells sb[i] 0 (Lib.byteCells (b.take k))).heap.size = w.heap.size := (setCells_same sb[i] _ _ _).2.2.2.1
  have hg := h.gs sb[i] (List.getElem_mem hi)
  have htk : (b.take k).length = k := by rw [List.length_take]; omega
  have hsi := h.sec i hi
  exact
  { head := by
      obtain ⟨at_, lv, ar, h1, h2⟩ := h.head
      exact ⟨at_, lv, ar, (hbb g (Ne.symm hg.1)).trans h1, h2⟩
    srow := ownsRow_block h.srow fun k hk => hbb k fun e => hg.2.1 (by rw [hk, e])
    slen := h.slen.trans hlen.symm
    smax := by show s'.length ≤ _; rw [hlen]; exact h.smax
    sec := fun j hj => by
      by_cases e : j = i
      · subst e
        have ht : w.there sb[j] 0 (Lib.byteCells (b.take k)).length := there_part hsi.2.1 _ (by rw [bl, htk]; omega)
        refine ⟨?_, World.there_setCells hsi.2.1 _ _ _, ?_⟩
        · rw [hs1, bc_append]
          refine rangeAt_append (World.rangeAt_setCells_same _ _ _ _ ht) ?_
          rw [bl, htk, bc_drop]
          exact World.rangeAt_setCells_apart (rangeAt_drop hsi.1 k) _ _ _ (by rw [bl, htk]; omega)
        · rw [hs1]; exact torn_length hb hsi.2.2 hk
      · have hne : sb[j] ≠ sb[i] := fun e' => e (h.nd j i hj hi e')
        rw [hs2 j e]
        exact ⟨rangeAt_block (h.sec j hj).1 (hbb _ hne), there_block (h.sec j hj).2.1 (hbb _ hne), (h.sec j hj).2.2⟩
    prow := ownsRow_block h.prow fun k hk => hbb k fun e => hg.2.2.1 (by rw [hk, e])
    pok := h.pok
    pown := fun x hx => ⟨(h.pown x hx).1.keep (by omega) fun k hk => hbb k fun e => (h.qo x hx k hk).2.2.2 (by rw [e]; exact List.getElem_mem hi), by show _ < s'.length ∧ _; rw [hlen]; exact (h.pown x hx).2⟩
    nd := h.nd
    gs := fun b hb' => ⟨(h.gs b hb').1, (h.gs b hb').2.1, (h.gs b hb').2.2.1, by rw [hsz]; exact (h.gs b hb').2.2.2⟩
    sg := h.sg, pg := h.pg, sp := h.sp, qo := h.qo }

/-! ### What is read: the sectors' slices, the pending writes' -/
theorem RefM.sv_at (h : RefM w0 w g sv pv sb ps d) : ∃ a c, sv = .slice a sb.length c ∧ sb.length ≤ c ∧ c ≤ maxLen ∧ ∀ i (hi : i < sb.length), ∃ s, a = some ⟨s, 0, none⟩ ∧ s ≠ g ∧ w.cell? ⟨s, i, none⟩ = some (.slice (some ⟨sb[i], 0, none⟩) 16 16) ∧ ∀ b ∈ sb, b ≠ s := by
  obtain ⟨h1, h2⟩ := h.srow
  rcases id h2 with ⟨hv, h0⟩ | ⟨q, cap, cur, hv, -, hq, hl, hm, -⟩
  · exact ⟨none, 0, by rw [hv, h0], by omega, by simp [maxLen], fun i hi => by omega⟩
  · refine ⟨some ⟨q, 0, none⟩, cap, hv, hl, hm, fun i hi => ⟨q, rfl, fun e => h.sg (by rw [hv, ← e]; rfl), ?_, fun b hb e => (h.gs b hb).2.1 (by rw [hv, e]; rfl)⟩⟩
    have := World.ownsRow.cells ⟨h1, h2⟩ (g := q) (by rw [hv]; rfl) i (.slice (some ⟨sb[i], 0, none⟩) 16 16) (by simp [svals, hi])
    rwa [Lib.add_plain, Nat.zero_add] at this
theorem qcells_at : ∀ (ps : Pend) (j : Nat) (hj : j < ps.length), (qcells ps)[j * 2]? = some (.int .i64 (ps[j].2.1 : Int)) ∧ (qcells ps)[j * 2 + 1]? = some ps[j].1
  | x :: r, 0, _ => ⟨rfl, rfl⟩
  | x :: r, j + 1, hj => by
    have := qcells_at r j (by simpa using hj)
    rw [show (j + 1) * 2 = j * 2 + 2 by omega]
    exact this
theorem qcells_length : ∀ (ps : Pend), (qcells ps).length = ps.length * 2
  | [] => rfl
  | x :: r => by
    have := qcells_length r
    simp only [qcells, List.flatMap_cons, List.length_append, List.length_cons] at this ⊢
    rw [this]; simp [qcell]; omega
theorem qcells_snoc (ps : Pend) (x : Value × Nat × List UInt8) : qcells (ps ++ [x]) = qcells ps ++ qcell x := by simp [qcells]
theorem RefM.pv_at (h : RefM w0 w g sv pv sb ps d) : ∃ a c, pv = .slice a ps.length c ∧ ps.length ≤ c ∧ c ≤ maxLen ∧ ∀ j (hj : j < ps.length), ∃ q, a = some ⟨q, 0, none⟩ ∧ q ≠ g ∧ w.cell? ⟨q, j * 2, none⟩ = some (.int .i64 (ps[j].2.1 : Int)) ∧ w.cell? ⟨q, j * 2 + 1, none⟩ = some ps[j].1 ∧ ∀ b ∈ sb, b ≠ q := by
  obtain ⟨h1, h2⟩ := h.prow
  rcases id h2 with ⟨hv, h0⟩ | ⟨q, cap, cur, hv, -, hq, hl, hm, -⟩
  · exact ⟨none, 0, by rw [hv, h0], by omega, by simp [maxLen], fun i hi => by omega⟩
  · refine ⟨some ⟨q, 0, none⟩, cap, hv, hl, hm, fun j hj => ⟨q, rfl, fun e => h.pg (by rw [hv, ← e]; rfl), ?_, ?_, fun b hb e => (h.gs b hb).2.2.1 (by rw [hv, e]; rfl)⟩⟩
    · have := World.ownsRow.cells ⟨h1, h2⟩ (g := q) (by rw [hv]; rfl) (j * 2) _ (qcells_at ps j hj).1
      rwa [Lib.add_plain, Nat.zero_add] at this
    · have := World.ownsRow.cells ⟨h1, h2⟩ (g := q) (by rw [hv]; rfl) (j * 2 + 1) _ (qcells_at ps j hj).2
      rwa [Lib.add_plain, Nat.zero_add] at this
/-- A row that is pending. -/
theorem RefM.row_at (h : RefM w0 w g sv pv sb ps d) (j : Nat) (hj : j < ps.length) : ∃ k c, ps[j].1 = .slice (some ⟨k, 0, none⟩) 16 c ∧ 16 ≤ c ∧ c ≤ maxLen ∧ k ≠ g ∧ sv.ownBlock ≠ some k ∧ pv.ownBlock ≠ some k ∧ (∀ b ∈ sb, b ≠ k) ∧ k < w.heap.size ∧ w.rangeAt k 0 (Lib.byteCells ps[j].2.2) := by
  obtain ⟨h1, h2, h3⟩ := h.pown ps[j] (List.getElem_mem hj)
  rcases id h1 with ⟨-, h0⟩ | ⟨k, c, hv, -, hlt, hlc, hcm, -, hc⟩
  · rw [h0] at h3; simp at h3
  · rw [h3] at hv hlc
    obtain ⟨q1, q2, q3, q4⟩ := h.qo ps[j] (List.getElem_mem hj) k (by rw [hv]; rfl)
    refine ⟨k, c, hv, hlc, hcm, q1, q2, q3, fun b hb e => q4 (by rw [← e]; exact hb), hlt, fun i v hi => ?_⟩
    have hil : i < ps[j].2.2.length := by have := (List.getElem?_eq_some_iff.1 hi).1; rwa [bl] at this
    rw [bc_at _ i hil] at hi
    rw [Nat.zero_add, hc i hil, ← hi]
end

/-! ### The disk, its blocks among D -/
/-- The disk is another one; nothing else is turned but new memory. -/
def RStep (w0 : World) (D : Nat → Prop) (w w' : World) (p : Value) (d : Dk) : Prop := ∃ D', RefAt w0 w' D' p d ∧ Kept D w w' ∧ ∀ k, D' k → D k ∨ w.heap.size ≤ k
theorem RStep.same {w0 w : World} {D : Nat → Prop} {p : Value} {d : Dk} (h : RefAt w0 w D p d) : RStep w0 D w w p d := ⟨D, h, Kept.refl _ _, fun _ h => .inl h⟩
theorem RefAt.far {w0 w w' : World} {D E : Nat → Prop} {p : Value} {d : Dk} (h : RefAt w0 w D p d) (hk : Kept E w w') (hn : ∀ k, D k → ¬ E k) (hE : ∀ k, E k → w0.heap.size ≤ k) : RefAt w0 w' D p d := by
  obtain ⟨g, sv, pv, sb, ps, rfl, hm, hw, hD, hlt, hb⟩ := h
  exact ⟨g, sv, pv, sb, ps, rfl, hm.far hk (fun k hb => hn k (hD k hb)), hw, hD, fun k hd => ⟨(hlt k hd).1, Nat.lt_of_lt_of_le (hlt k hd).2 hk.size⟩, hb.trans (hk.below hE hb.size)⟩
theorem RefAt.below {w0 w w' : World} {D : Nat → Prop} {p : Value} {d : Dk} (h : RefAt w0 w D p d) (hb : Below w.heap.size w w') : RefAt w0 w' D p d :=
  h.far (E := fun _ => False) (Kept.of_below hb) (fun _ _ h => h) fun _ h => h.elim
theorem RefAt.lt {w0 w : World} {D : Nat → Prop} {p : Value} {d : Dk} (h : RefAt w0 w D p d) {k : Nat} (hk : D k) : w0.heap.size ≤ k ∧ k < w.heap.size := by
  obtain ⟨g, sv, pv, sb, ps, -, -, -, -, hlt, -⟩ := h
  exact hlt k hk
theorem RefAt.old {w0 w : World} {D : Nat → Prop} {p : Value} {d : Dk} (h : RefAt w0 w D p d) : Below w0.heap.size w0 w := by
  obtain ⟨g, sv, pv, sb, ps, -, -, -, -, -, hb⟩ := h
  exact hb
theorem RefAt.wf {w0 w : World} {D : Nat → Prop} {p : Value} {d : Dk} (h : RefAt w0 w D p d) : Wf d := by
  obtain ⟨g, sv, pv, sb, ps, -, -, hw, -⟩ := h
  exact hw
theorem RefAt.max {w0 w : World} {D : Nat → Prop} {p : Value} {d : Dk} (h : RefAt w0 w D p d) : d.s.length ≤ 4000 := by
  obtain ⟨g, sv, pv, sb, ps, -, hm, -⟩ := h
  exact hm.smax
theorem RStep.of {w0 w w' : World} {D K : Nat → Prop} {g : Nat} {sv pv sv' pv' : Value} {sb sb' : List Nat} {ps ps' : Pend} {d' : Dk} (hD : ∀ k, RBlk g sv pv sb ps k → D k) (hlt : ∀ k, D k → w0.heap.size ≤ k ∧ k < w.heap.size) (hb0 : Below w0.heap.size w0 w)
    (h' : RefM w0 w' g sv' pv' sb' ps' d') (hw : Wf d') (hk : Kept K w w') (hK : ∀ k, K k → D k) (hn : ∀ k, RBlk g sv' pv' sb' ps' k → RBlk g sv pv sb ps k ∨ w.heap.size ≤ k) : RStep w0 D w w' (.pointer (some ⟨g, 0, none⟩)) d' := by
  have hk' : Kept D w w' := hk.mono fun k _ h => hK k h
  have hsz := hb0.size
  refine ⟨fun k => D k ∨ (w.heap.size ≤ k ∧ k < w'.heap.size), ⟨g, sv', pv', sb', ps', rfl, h', hw, fun k hb => ?_, fun k hd => ?_, hb0.trans (hk'.below (fun k hk => (hlt k hk).1) hsz)⟩, hk', fun k hd => hd.imp id And.left⟩
  · have hkl := h'.lt hb
    exact (hn k hb).imp (hD k) fun h => ⟨h, hkl⟩
  · rcases hd with hd | hd
    · exact ⟨(hlt k hd).1, Nat.lt_of_lt_of_le (hlt k hd).2 hk.size⟩
    · exact ⟨by omega, hd.2⟩
theorem RStep.trans {w0 w w1 w2 : World} {D : Nat → Prop} {p : Value} {d1 d2 : Dk} (h : RStep w0 D w w1 p d1) (k : ∀ E, RefAt w0 w1 E p d1 → (∀ k, E k → D k ∨ w.heap.size ≤ k) → RStep w0 E w1 w2 p d2) : RStep w0 D w w2 p d2 := by
  obtain ⟨E, hd, hk, hE⟩ := h
  obtain ⟨E', hd', hk', hE'⟩ := k E hd hE
  exact ⟨E', hd', hk.trans hk' hE, fun i hi => (hE' i hi).elim (hE i) fun h => .inr (Nat.le_trans hk.size h)⟩
theorem RStep.below {w0 w w1 w2 : World} {D : Nat → Prop} {p : Value} {d : Dk} (h : RStep w0 D w w1 p d) (hb : Below w1.heap.size w1 w2) : RStep w0 D w w2 p d :=
  h.trans fun E hd _ => ⟨E, hd.below hb, Kept.of_below hb, fun _ h => .inl h⟩
theorem RStep.ahead {w0 w w1 w2 : World} {D : Nat → Prop} {p : Value} {d : Dk} (hb : Below w.heap.size w w1) (h : RStep w0 D w1 w2 p d) : RStep w0 D w w2 p d := by
  obtain ⟨E, hd, hk, hE⟩ := h
  exact ⟨E, hd, (Kept.of_below hb).trans hk fun i hi => .inl hi, fun i hi => (hE i hi).imp id fun h => Nat.le_trans hb.size h⟩

/-- Choices that can be read, where there are some. -/
theorem KeepsAt.some_at {w : World} {v : Value} {l : List Int} (h : KeepsAt w v l) (k : Nat) (hk : k < l.length) : ∃ b o c, v = .slice (some ⟨b, o, none⟩) l.length c ∧ w.cell? ⟨b, o + k, none⟩ = some (.int .i64 l[k]) ∧ b < w.heap.size := by
  rcases h with ⟨-, rfl⟩ | ⟨a, c, rfl, hc⟩
  · simp at hk
  · obtain ⟨b, o, spot⟩ := a
    have h0 := hc 0 (by omega)
    have hspot : spot = none := by simpa [Addr.add] using World.cell?_spot h0
    subst hspot
    have := hc k hk
    rw [Lib.add_plain] at this
    exact ⟨b, o, c, rfl, this, World.block_lt_of_cell? w _ this⟩
end Go.Proofs.YtilplpjdbkipoaaGreatDoor
