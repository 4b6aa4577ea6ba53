/-
  Proved: a row of parts with one part more. Conditions: the row lies in memory.
-/
import Derived.Test.YtpifbpfmjmcchaaDoorLexTill
import Derived.Deep.RegionLaw
import Derived.OneCell
namespace Go.Proofs.YtpifbpfmjmcchaaDoor
open Go Go.RowKit GlyphMath LexMath

/-- What a row of parts is. -/
theorem RowO.shape {w : World} {B W : Nat} {v : Value} {vs : List Value} {F : Nat → Prop} {ps : List Pt} (h : RowO w B W v vs F ps) : ∃ a c, v = .slice a ps.length c := by
  rcases h.own.2 with ⟨hv, h0⟩ | ⟨g, cap, cur, hv, _⟩
  · exact ⟨none, 0, by rw [hv, h0]⟩
  · exact ⟨_, _, hv⟩

def zeroPart : Array Value := #[.int .i64 0, .string ⟨#[]⟩, .string ⟨#[]⟩, .slice none 0 0, .bool false]
theorem new_block (w : World) (cs : Array Value) (t : TypeId) : ∀ (j : Nat) (u : Value), cs.toList[j]? = some u → (w.alloc (.cells cs t)).drew.cell? ((⟨w.heap.size, 0, none⟩ : Addr).add j) = some u := by
  intro j u hu
  have h : (w.alloc (.cells cs t)).drew.heap[w.heap.size]? = some (.cells cs t (0, 0)) := heap_alloc_new w _
  exact World.news_of_block h j u hu

/-- What the row is behind 'append' of a part that is nought yet. -/
structure Grown (w0 w1 : World) (B W : Nat) (v : Value) (vs : List Value) (ps : List Pt) (g cap : Nat) : Prop where
  own : w1.ownsRow B 25 5 (.slice (some ⟨g, 0, none⟩) (ps.length + 1) cap) (ps.length + 1) (rowCells ps vs ++ zeroPart.toList)
  grown : (w0.alloc (.cells zeroPart 25)).drew.grownBy w1 v.ownBlock
  at_ : v.ownBlock = some g ∨ g = w0.heap.size + 1
  lt : g < w1.heap.size

theorem Grown.facts {w0 w1 : World} {B W g cap : Nat} {v : Value} {vs : List Value} {F : Nat → Prop} {ps : List Pt} (h : RowO w0 B W v vs F ps) (k : Grown w0 w1 B W v vs ps g cap) :
    w1.cell? ⟨W, 0, none⟩ = some v ∧ w1.frozen? ⟨W, 0, none⟩ = false ∧ g ≠ W ∧ (∀ i, i < 5 → w1.cell? ⟨g, ps.length * 5 + i, none⟩ = zeroPart[i]?) ∧ ∀ j, w1.frozen? ⟨g, j, none⟩ = false := by
  have hW := h.lt
  have hk : w1.heap[W]? = w0.heap[W]? := (k.grown.block W (by show W < (w0.alloc _).heap.size; simp; omega) (fun e => h.ne e.symm)).trans (Below.heap_alloc _ _ _ hW)
  have hh := hk.trans h.head
  refine ⟨by rw [cell_plain hh]; rfl, frozen_plain hh 0, ?_, fun i hi => ?_, k.own.frozenAt⟩
  · rcases k.at_ with e | e
    · exact fun e' => h.ne (by rw [e, e'])
    · omega
  · rw [k.own.cellAt _ (by omega), List.getElem?_append_right (by rw [rowCells_length _ _ h.len]; omega), rowCells_length _ _ h.len, Nat.add_sub_cancel_left]
    simp

/-- Five cells are stored, one behind the other. -/
def put5 (w : World) (g o : Nat) (a0 a1 a2 a3 a4 : Value) : World :=
  ((((w.setCell ⟨g, o, none⟩ a0).setCell ⟨g, o + 1, none⟩ a1).setCell ⟨g, o + 2, none⟩ a2).setCell ⟨g, o + 3, none⟩ a3).setCell ⟨g, o + 4, none⟩ a4
theorem put5_other (w : World) (g o : Nat) (a0 a1 a2 a3 a4 : Value) (k : Nat) (hk : k ≠ g) : (put5 w g o a0 a1 a2 a3 a4).heap[k]? = w.heap[k]? := by
  unfold put5
  rw [Below.heap_setCell _ _ _ _ hk, Below.heap_setCell _ _ _ _ hk, Below.heap_setCell _ _ _ _ hk, Below.heap_setCell _ _ _ _ hk, Below.heap_setCell _ _ _ _ hk]
theorem put5_size (w : World) (g o : Nat) (a0 a1 a2 a3 a4 : Value) : (put5 w g o a0 a1 a2 a3 a4).heap.size = w.heap.size := by simp [put5, World.setCell]
theorem set_same (w : World) (a : Addr) (v : Value) : (w.setCell a v).os = w.os ∧ (w.setCell a v).tape = w.tape ∧ (w.setCell a v).output = w.output ∧ (w.setCell a v).heap.size = w.heap.size := ⟨rfl, rfl, rfl, by simp [World.setCell]⟩
theorem put5_same (w : World) (g o : Nat) (a0 a1 a2 a3 a4 : Value) : (put5 w g o a0 a1 a2 a3 a4).os = w.os ∧ (put5 w g o a0 a1 a2 a3 a4).tape = w.tape ∧ (put5 w g o a0 a1 a2 a3 a4).output = w.output := by
  unfold put5
  refine ⟨?_, ?_, ?_⟩
  · rw [(set_same _ _ _).1, (set_same _ _ _).1, (set_same _ _ _).1, (set_same _ _ _).1, (set_same _ _ _).1]
  · rw [(set_same _ _ _).2.1, (set_same _ _ _).2.1, (set_same _ _ _).2.1, (set_same _ _ _).2.1, (set_same _ _ _).2.1]
  · rw [(set_same _ _ _).2.2.1, (set_same _ _ _).2.2.1, (set_same _ _ _).2.2.1, (set_same _ _ _).2.2.1, (set_same _ _ _).2.2.1]
theorem set5 (L : List Value) (z0 z1 z2 z3 z4 a0 a1 a2 a3 a4 : Value) :
    (((((L ++ [z0, z1, z2, z3, z4]).set L.length a0).set (L.length + 1) a1).set (L.length + 2) a2).set (L.length + 3) a3).set (L.length + 4) a4 = L ++ [a0, a1, a2, a3, a4] := by
  simp [List.set_append_right]
theorem put5_own {w : World} {B e g n cap : Nat} {L : List Value} {z0 z1 z2 z3 z4 : Value} (h : w.ownsRow B e 5 (.slice (some ⟨g, 0, none⟩) n cap) n (L ++ [z0, z1, z2, z3, z4])) (o : Nat) (ho : L.length = o) (a0 a1 a2 a3 a4 : Value) :
    (put5 w g o a0 a1 a2 a3 a4).ownsRow B e 5 (.slice (some ⟨g, 0, none⟩) n cap) n (L ++ [a0, a1, a2, a3, a4]) := by
  have h5 := ((((h.stored o a0).1.stored (o + 1) a1).1.stored (o + 2) a2).1.stored (o + 3) a3).1.stored (o + 4) a4
  have := h5.1
  rw [← ho] at this ⊢
  rw [set5] at this
  exact this

/-- The row with one part more, whichever is stored first. -/
theorem Grown.put {w0 w1 : World} {B W g cap : Nat} {v : Value} {vs : List Value} {F : Nat → Prop} {ps : List Pt} (h : RowO w0 B W v vs F ps) (k : Grown w0 w1 B W v vs ps g cap) (p : Pt) (u : Value)
    (hu : ∃ F', WordV w0 F' u p.word ∧ ∀ g, F' g → B ≤ g ∧ g < w0.heap.size ∧ g ≠ W ∧ v.ownBlock ≠ some g) (o : Nat) (ho : ps.length * 5 = o) (w2 : World)
    (hw : w2 = put5 (w1.setCell ⟨W, 0, none⟩ (.slice (some ⟨g, 0, none⟩) (ps.length + 1) cap)) g o (.int .i64 p.kind) (txt p.text) (txt p.op) u (.bool p.q) ∨
      w2 = (put5 w1 g o (.int .i64 p.kind) (txt p.text) (txt p.op) u (.bool p.q)).setCell ⟨W, 0, none⟩ (.slice (some ⟨g, 0, none⟩) (ps.length + 1) cap)) :
    RowAt w2 B W (ps ++ [p]) ∧ Kept (fun k => B ≤ k) w0 w2 := by
  obtain ⟨x0, x1, x2, x3, x4⟩ := k.facts h
  have hW := h.lt
  have hsz : (w0.alloc (.cells zeroPart 25)).drew.heap.size = w0.heap.size + 1 := by show (w0.alloc _).heap.size = _; simp
  have hs1 := k.grown.size
  rw [hsz] at hs1
  have hold : ∀ j, j < w0.heap.size → v.ownBlock ≠ some j → w1.heap[j]? = w0.heap[j]? := fun j hj hn => (k.grown.block j (by rw [hsz]; omega) (fun e => hn e.symm)).trans (Below.heap_alloc _ _ _ hj)
  have hh1 : w1.heap[W]? = some (.cells #[v] 89 (0, 0)) := (hold W hW h.ne).trans h.head
  have hgB : B ≤ g := (World.ownsRow.lt k.own g rfl).1
  have hL : (rowCells ps vs).length = o := by rw [rowCells_length _ _ h.len, ho]
  have hne : ∀ (a : Addr), a.block = W → (Value.slice (some ⟨g, 0, none⟩) (ps.length + 1) cap).ownBlock ≠ some a.block := fun a e e' => x2 (by rw [e] at e'; simpa [Value.ownBlock] using e')
  have key : w2.ownsRow B 25 5 (.slice (some ⟨g, 0, none⟩) (ps.length + 1) cap) (ps.length + 1) (rowCells ps vs ++ pcells p u) ∧ w2.heap[W]? = some (.cells #[.slice (some ⟨g, 0, none⟩) (ps.length + 1) cap] 89 (0, 0)) ∧
      (∀ j, j ≠ g → j ≠ W → w2.heap[j]? = w1.heap[j]?) ∧ w2.heap.size = w1.heap.size ∧ w2.os = w1.os ∧ w2.tape = w1.tape ∧ w2.output = w1.output := by
    obtain ⟨b0, hb0⟩ : ∃ b0, (Value.int .i64 p.kind) = b0 := ⟨_, rfl⟩
    obtain ⟨b1, hb1⟩ : ∃ b1, txt p.text = b1 := ⟨_, rfl⟩
    obtain ⟨b2, hb2⟩ : ∃ b2, txt p.op = b2 := ⟨_, rfl⟩
    obtain ⟨b4, hb4⟩ : ∃ b4, (Value.bool p.q) = b4 := ⟨_, rfl⟩
    obtain ⟨V, hV⟩ : ∃ V, Value.slice (some ⟨g, 0, none⟩) (ps.length + 1) cap = V := ⟨_, rfl⟩
    have ko : w1.ownsRow B 25 5 (.slice (some ⟨g, 0, none⟩) (ps.length + 1) cap) (ps.length + 1) (rowCells ps vs ++ [.int .i64 0, .string ⟨#[]⟩, .string ⟨#[]⟩, .slice none 0 0, .bool false]) := k.own
    have e5 : pcells p u = [b0, b1, b2, u, b4] := by rw [← hb0, ← hb1, ← hb2, ← hb4]; rfl
    rw [hb0, hb1, hb2, hb4] at hw
    rw [e5]
    rw [hV] at hw hne ⊢
    have hne' := hne ⟨W, 0, none⟩ rfl
    rcases hw with hw | hw
    · obtain ⟨X, hX⟩ : ∃ X, w1.setCell ⟨W, 0, none⟩ V = X := ⟨_, rfl⟩
      have kX : X.ownsRow B 25 5 (.slice (some ⟨g, 0, none⟩) (ps.length + 1) cap) (ps.length + 1) (rowCells ps vs ++ [.int .i64 0, .string ⟨#[]⟩, .string ⟨#[]⟩, .slice none 0 0, .bool false]) := by rw [← hX]; exact ownsRow_setCell_other ko (by rw [hV]; exact hne') _
      obtain ⟨s1, s2, s3⟩ := put5_same X g o b0 b1 b2 u b4
      obtain ⟨r1, r2, r3, r4⟩ := set_same w1 ⟨W, 0, none⟩ V
      rw [hX] at r1 r2 r3 r4 hw
      rw [hw]
      refine ⟨by rw [← hV]; exact put5_own kX o hL b0 b1 b2 u b4, ?_, fun j h1 h2 => ?_, ?_, s1.trans r1, s2.trans r2, s3.trans r3⟩
      · rw [put5_other _ _ _ _ _ _ _ _ _ (Ne.symm x2), ← hX]; exact heap_set_one hh1 _
      · rw [put5_other _ _ _ _ _ _ _ _ _ h1, ← hX, Below.heap_setCell _ _ _ _ h2]
      · rw [put5_size, r4]
    · obtain ⟨X, hX⟩ : ∃ X, put5 w1 g o b0 b1 b2 u b4 = X := ⟨_, rfl⟩
      have kX : X.ownsRow B 25 5 (.slice (some ⟨g, 0, none⟩) (ps.length + 1) cap) (ps.length + 1) (rowCells ps vs ++ [b0, b1, b2, u, b4]) := by rw [← hX]; exact put5_own ko o hL b0 b1 b2 u b4
      obtain ⟨s1, s2, s3⟩ := put5_same w1 g o b0 b1 b2 u b4
      have s4 := put5_size w1 g o b0 b1 b2 u b4
      have s5 := fun j h => put5_other w1 g o b0 b1 b2 u b4 j h
      rw [hX] at s1 s2 s3 s4 s5 hw
      obtain ⟨r1, r2, r3, r4⟩ := set_same X ⟨W, 0, none⟩ V
      rw [hw]
      refine ⟨by rw [← hV]; exact ownsRow_setCell_other kX (by rw [hV]; exact hne') _, heap_set_one ((s5 W (Ne.symm x2)).trans hh1) _, fun j h1 h2 => ?_, r4.trans s4, r1.trans s1, r2.trans s2, r3.trans s3⟩
      rw [Below.heap_setCell _ _ _ _ h2, s5 j h1]
  obtain ⟨y0, y1, y2, y3, y4, y5, y6⟩ := key
  have hgl : (Value.slice (some ⟨g, 0, none⟩) (ps.length + 1) cap).ownBlock = some g := rfl
  have hsame : ∀ j, j < w0.heap.size → j ≠ W → v.ownBlock ≠ some j → w2.heap[j]? = w0.heap[j]? := fun j hj hjW hjv => by
    have hjg : j ≠ g := by
      rcases k.at_ with e | e
      · exact fun e' => hjv (by rw [e, e'])
      · omega
    rw [y2 j hjg hjW, hold j hj hjv]
  obtain ⟨F', hu1, hu2⟩ := hu
  refine ⟨⟨_, vs ++ [u], fun j => F j ∨ F' j, { head := y1, base := h.base, own := ?_, len := by simp [h.len], sub := fun j q x hq hx => ?_, far := fun j hj => ?_, ne := fun e => x2 (by simpa [Value.ownBlock] using e) }⟩, ?_⟩
  · rw [rowCells_append _ _ _ _ h.len]
    simpa [rowCells] using y0
  · rcases Nat.lt_or_ge j ps.length with hj | hj
    · rw [List.getElem?_append_left hj] at hq
      rw [List.getElem?_append_left (by rw [← h.len]; exact hj)] at hx
      exact ((h.sub j q x hq hx).same fun i hi => hsame i (h.far i hi).2.1 (h.far i hi).2.2.1 (h.far i hi).2.2.2).mono fun i hi => .inl hi
    · rw [List.getElem?_append_right hj] at hq
      rw [List.getElem?_append_right (by rw [← h.len]; exact hj)] at hx
      obtain ⟨hj0, hq0⟩ := List.getElem?_eq_some_iff.1 hq
      obtain ⟨_, hx0⟩ := List.getElem?_eq_some_iff.1 hx
      simp only [List.length_singleton] at hj0
      simp only [List.getElem_singleton] at hq0 hx0
      subst hq0 hx0
      exact (hu1.same fun i hi => hsame i (hu2 i hi).2.1 (hu2 i hi).2.2.1 (hu2 i hi).2.2.2).mono fun i hi => .inr hi
  · have hlt : ∀ i, (B ≤ i ∧ i < w0.heap.size ∧ i ≠ W ∧ v.ownBlock ≠ some i) → B ≤ i ∧ i < w2.heap.size ∧ i ≠ W ∧ (Value.slice (some ⟨g, 0, none⟩) (ps.length + 1) cap).ownBlock ≠ some i := fun i ⟨a1, a2, a3, a4⟩ =>
      ⟨a1, by omega, a3, fun e => by
        have e' : g = i := by simpa [Value.ownBlock] using e
        rcases k.at_ with e2 | e2
        · exact a4 (by rw [e2, e'])
        · omega⟩
    exact hj.elim (fun hj => hlt j (h.far j hj)) fun hj => hlt j (hu2 j hj)
  · refine ⟨y4.trans k.grown.os, y5.trans k.grown.tape, y6.trans k.grown.output, by omega, fun j hj hn => hsame j hj (fun e => hn (by rw [e]; exact h.base)) fun e => hn ((World.ownsRow.lt h.own j e).1)⟩

theorem Grown.putA {w0 w1 : World} {B W g cap : Nat} {v : Value} {vs : List Value} {F : Nat → Prop} {ps qs : List Pt} (h : RowO w0 B W v vs F ps) (k : Grown w0 w1 B W v vs ps g cap) (p : Pt) (u : Value)
    (hu : ∃ F', WordV w0 F' u p.word ∧ ∀ g, F' g → B ≤ g ∧ g < w0.heap.size ∧ g ≠ W ∧ v.ownBlock ≠ some g) {N o0 o1 o2 o3 o4 : Nat} {a0 a1 a2 a3 a4 : Value} (hN : N = ps.length + 1)
    (h0 : o0 = ps.length * 5) (h1 : o1 = ps.length * 5 + 1) (h2 : o2 = ps.length * 5 + 2) (h3 : o3 = ps.length * 5 + 3) (h4 : o4 = ps.length * 5 + 4) (ha : [a0, a1, a2, a3, a4] = pcells p u) (hq : qs = ps ++ [p]) :
    RowAt ((((((w1.setCell ⟨W, 0, none⟩ (.slice (some ⟨g, 0, none⟩) N cap)).setCell ⟨g, o0, none⟩ a0).setCell ⟨g, o1, none⟩ a1).setCell ⟨g, o2, none⟩ a2).setCell ⟨g, o3, none⟩ a3).setCell ⟨g, o4, none⟩ a4) B W qs ∧
      Kept (fun k => B ≤ k) w0 ((((((w1.setCell ⟨W, 0, none⟩ (.slice (some ⟨g, 0, none⟩) N cap)).setCell ⟨g, o0, none⟩ a0).setCell ⟨g, o1, none⟩ a1).setCell ⟨g, o2, none⟩ a2).setCell ⟨g, o3, none⟩ a3).setCell ⟨g, o4, none⟩ a4) := by
  subst hN h0 h1 h2 h3 h4 hq
  simp only [pcells, List.cons.injEq, and_true] at ha
  obtain ⟨rfl, rfl, rfl, rfl, rfl⟩ := ha
  have := Grown.put h k p a3 hu (ps.length * 5) rfl _ (.inl rfl)
  unfold put5 at this
  exact this
theorem Grown.putB {w0 w1 : World} {B W g cap : Nat} {v : Value} {vs : List Value} {F : Nat → Prop} {ps qs : List Pt} (h : RowO w0 B W v vs F ps) (k : Grown w0 w1 B W v vs ps g cap) (p : Pt) (u : Value)
    (hu : ∃ F', WordV w0 F' u p.word ∧ ∀ g, F' g → B ≤ g ∧ g < w0.heap.size ∧ g ≠ W ∧ v.ownBlock ≠ some g) {N o0 o1 o2 o3 o4 : Nat} {a0 a1 a2 a3 a4 : Value} (hN : N = ps.length + 1)
    (h0 : o0 = ps.length * 5) (h1 : o1 = ps.length * 5 + 1) (h2 : o2 = ps.length * 5 + 2) (h3 : o3 = ps.length * 5 + 3) (h4 : o4 = ps.length * 5 + 4) (ha : [a0, a1, a2, a3, a4] = pcells p u) (hq : qs = ps ++ [p]) :
    RowAt ((((((w1.setCell ⟨g, o0, none⟩ a0).setCell ⟨g, o1, none⟩ a1).setCell ⟨g, o2, none⟩ a2).setCell ⟨g, o3, none⟩ a3).setCell ⟨g, o4, none⟩ a4).setCell ⟨W, 0, none⟩ (.slice (some ⟨g, 0, none⟩) N cap)) B W qs ∧
      Kept (fun k => B ≤ k) w0 ((((((w1.setCell ⟨g, o0, none⟩ a0).setCell ⟨g, o1, none⟩ a1).setCell ⟨g, o2, none⟩ a2).setCell ⟨g, o3, none⟩ a3).setCell ⟨g, o4, none⟩ a4).setCell ⟨W, 0, none⟩ (.slice (some ⟨g, 0, none⟩) N cap)) := by
  subst hN h0 h1 h2 h3 h4 hq
  simp only [pcells, List.cons.injEq, and_true] at ha
  obtain ⟨rfl, rfl, rfl, rfl, rfl⟩ := ha
  have := Grown.put h k p a3 hu (ps.length * 5) rfl _ (.inr rfl)
  unfold put5 at this
  exact this
end Go.Proofs.YtpifbpfmjmcchaaDoor
