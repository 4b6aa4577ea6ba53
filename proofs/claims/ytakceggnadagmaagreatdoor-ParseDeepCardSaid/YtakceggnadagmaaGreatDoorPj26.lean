/-
  Proved: texts joined: Proved: a row of parts with one part more. Conditions: the row lies in memory.
  Proved: the contract of a row's lit: a Lit more, or more letters of the last one. Conditions: the row lies in memory, and its texts are short.
  Proved: the contract of a row's lit where it puts a Lit behind. Conditions: the row lies in memory, and it is short.
  Proved: the contract of a row's lit where it puts a Lit behind. Conditions: the row lies in memory, and it is short.
  Proved: what each of the program's function values says of a letter that is handed to till. Conditions: as each says.
-/
import Derived.Test.YtakceggnadagmaaGreatDoorPj25
import Derived.Deep.RegionLaw
import Derived.OneCell
namespace Go.Proofs.YtakceggnadagmaaGreatDoor
open Go Go.RowKit GlyphMath LexMath

/-- What a row of parts is. -/
theorem RowO.shape {w : World} {B W : Nat} {v : Value} {vs : List Value} {F : Nat → Prop} {ps : List Pt} (h : RowO w B W v vs F ps) : ∃ a c, v = .slice a ps.length c := by
  rcases h.own.2 with ⟨hv, h0⟩ | ⟨g, cap, cur, hv, _⟩
  · exact ⟨none, 0, by rw [hv, h0]⟩
  · exact ⟨_, _, hv⟩



/-- What the row is behind 'append' of a part that is nought yet. -/
structure Grown (w0 w1 : World) (B W : Nat) (v : Value) (vs : List Value) (ps : List Pt) (g cap : Nat) : Prop where
  own : w1.ownsRow B 113 5 (.slice (some ⟨g, 0, none⟩) (ps.length + 1) cap) (ps.length + 1) (rowCells ps vs ++ zeroPart.toList)
  grown : (w0.alloc (.cells zeroPart 113)).drew.grownBy w1 v.ownBlock
  at_ : v.ownBlock = some g ∨ g = w0.heap.size + 1
  lt : g < w1.heap.size

theorem Grown.facts {w0 w1 : World} {B W g cap : Nat} {v : Value} {vs : List Value} {F : Nat → Prop} {ps : List Pt} (h : RowO w0 B W v vs F ps) (k : Grown w0 w1 B W v vs ps g cap) :
    w1.cell? ⟨W, 0, none⟩ = some v ∧ w1.frozen? ⟨W, 0, none⟩ = false ∧ g ≠ W ∧ (∀ i, i < 5 → w1.cell? ⟨g, ps.length * 5 + i, none⟩ = zeroPart[i]?) ∧ ∀ j, w1.frozen? ⟨g, j, none⟩ = false := by
  have hW := h.lt
  have hk : w1.heap[W]? = w0.heap[W]? := (k.grown.block W (by show W < (w0.alloc _).heap.size; simp; omega) (fun e => h.ne e.symm)).trans (Below.heap_alloc _ _ _ hW)
  have hh := hk.trans h.head
  refine ⟨by rw [cell_plain hh]; rfl, frozen_plain hh 0, ?_, fun i hi => ?_, k.own.frozenAt⟩
  · rcases k.at_ with e | e
    · exact fun e' => h.ne (by rw [e, e'])
    · omega
  · rw [k.own.cellAt _ (by omega), List.getElem?_append_right (by rw [rowCells_length _ _ h.len]; omega), rowCells_length _ _ h.len, Nat.add_sub_cancel_left]
    simp

/-- Five cells are stored, one behind the other. -/
def put5 (w : World) (g o : Nat) (a0 a1 a2 a3 a4 : Value) : World :=
  ((((w.setCell ⟨g, o, none⟩ a0).setCell ⟨g, o + 1, none⟩ a1).setCell ⟨g, o + 2, none⟩ a2).setCell ⟨g, o + 3, none⟩ a3).setCell ⟨g, o + 4, none⟩ a4
theorem put5_other (w : World) (g o : Nat) (a0 a1 a2 a3 a4 : Value) (k : Nat) (hk : k ≠ g) : (put5 w g o a0 a1 a2 a3 a4).heap[k]? = w.heap[k]? := by
  unfold put5
  rw [Below.heap_setCell _ _ _ _ hk, Below.heap_setCell _ _ _ _ hk, Below.heap_setCell _ _ _ _ hk, Below.heap_setCell _ _ _ _ hk, Below.heap_setCell _ _ _ _ hk]
theorem put5_size (w : World) (g o : Nat) (a0 a1 a2 a3 a4 : Value) : (put5 w g o a0 a1 a2 a3 a4).heap.size = w.heap.size := by simp [put5, World.setCell]
theorem set_same (w : World) (a : Addr) (v : Value) : (w.setCell a v).os = w.os ∧ (w.setCell a v).tape = w.tape ∧ (w.setCell a v).output = w.output ∧ (w.setCell a v).heap.size = w.heap.size := ⟨rfl, rfl, rfl, by simp [World.setCell]⟩
theorem put5_same (w : World) (g o : Nat) (a0 a1 a2 a3 a4 : Value) : (put5 w g o a0 a1 a2 a3 a4).os = w.os ∧ (put5 w g o a0 a1 a2 a3 a4).tape = w.tape ∧ (put5 w g o a0 a1 a2 a3 a4).output = w.output := by
  unfold put5
  refine ⟨?_, ?_, ?_⟩
  · rw [(set_same _ _ _).1, (set_same _ _ _).1, (set_same _ _ _).1, (set_same _ _ _).1, (set_same _ _ _).1]
  · rw [(set_same _ _ _).2.1, (set_same _ _ _).2.1, (set_same _ _ _).2.1, (set_same _ _ _).2.1, (set_same _ _ _).2.1]
  · rw [(set_same _ _ _).2.2.1, (set_same _ _ _).2.2.1, (set_same _ _ _).2.2.1, (set_same _ _ _).2.2.1, (set_same _ _ _).2.2.1]
theorem set5 (L : List Value) (z0 z1 z2 z3 z4 a0 a1 a2 a3 a4 : Value) :
    (((((L ++ [z0, z1, z2, z3, z4]).set L.length a0).set (L.length + 1) a1).set (L.length + 2) a2).set (L.length + 3) a3).set (L.length + 4) a4 = L ++ [a0, a1, a2, a3, a4] := by
  simp [List.set_append_right]
theorem put5_own {w : World} {B e g n cap : Nat} {L : List Value} {z0 z1 z2 z3 z4 : Value} (h : w.ownsRow B e 5 (.slice (some ⟨g, 0, none⟩) n cap) n (L ++ [z0, z1, z2, z3, z4])) (o : Nat) (ho : L.length = o) (a0 a1 a2 a3 a4 : Value) :
    (put5 w g o a0 a1 a2 a3 a4).ownsRow B e 5 (.slice (some ⟨g, 0, none⟩) n cap) n (L ++ [a0, a1, a2, a3, a4]) := by
  have h5 := ((((h.stored o a0).1.stored (o + 1) a1).1.stored (o + 2) a2).1.stored (o + 3) a3).1.stored (o + 4) a4
  have := h5.1
  rw [← ho] at this ⊢
  rw [set5] at this
  exact this

/-- The row with one part more, whichever is stored first. -/
theorem Grown.put {w0 w1 : World} {B W g cap : Nat} {v : Value} {vs : List Value} {F : Nat → Prop} {ps : List Pt} (h : RowO w0 B W v vs F ps) (k : Grown w0 w1 B W v vs ps g cap) (p : Pt) (u : Value)
    (hu : ∃ F', WordV w0 F' u p.word ∧ ∀ g, F' g → B ≤ g ∧ g < w0.heap.size ∧ g ≠ W ∧ v.ownBlock ≠ some g) (o : Nat) (ho : ps.length * 5 = o) (w2 : World)
    (hw : w2 = put5 (w1.setCell ⟨W, 0, none⟩ (.slice (some ⟨g, 0, none⟩) (ps.length + 1) cap)) g o (.int .i64 p.kind) (txt p.text) (txt p.op) u (.bool p.q) ∨
      w2 = (put5 w1 g o (.int .i64 p.kind) (txt p.text) (txt p.op) u (.bool p.q)).setCell ⟨W, 0, none⟩ (.slice (some ⟨g, 0, none⟩) (ps.length + 1) cap)) :
    RowAt w2 B W (ps ++ [p]) ∧ Kept (fun k => B ≤ k) w0 w2 := by
  obtain ⟨x0, x1, x2, x3, x4⟩ := k.facts h
  have hW := h.lt
  have hsz : (w0.alloc (.cells zeroPart 113)).drew.heap.size = w0.heap.size + 1 := by show (w0.alloc _).heap.size = _; simp
  have hs1 := k.grown.size
  rw [hsz] at hs1
  have hold : ∀ j, j < w0.heap.size → v.ownBlock ≠ some j → w1.heap[j]? = w0.heap[j]? := fun j hj hn => (k.grown.block j (by rw [hsz]; omega) (fun e => hn e.symm)).trans (Below.heap_alloc _ _ _ hj)
  have hh1 : w1.heap[W]? = some (.cells #[v] 151 (0, 0)) := (hold W hW h.ne).trans h.head
  have hgB : B ≤ g := (World.ownsRow.lt k.own g rfl).1
  have hL : (rowCells ps vs).length = o := by rw [rowCells_length _ _ h.len, ho]
  have hne : ∀ (a : Addr), a.block = W → (Value.slice (some ⟨g, 0, none⟩) (ps.length + 1) cap).ownBlock ≠ some a.block := fun a e e' => x2 (by rw [e] at e'; simpa [Value.ownBlock] using e')
  have key : w2.ownsRow B 113 5 (.slice (some ⟨g, 0, none⟩) (ps.length + 1) cap) (ps.length + 1) (rowCells ps vs ++ pcells p u) ∧ w2.heap[W]? = some (.cells #[.slice (some ⟨g, 0, none⟩) (ps.length + 1) cap] 151 (0, 0)) ∧
      (∀ j, j ≠ g → j ≠ W → w2.heap[j]? = w1.heap[j]?) ∧ w2.heap.size = w1.heap.size ∧ w2.os = w1.os ∧ w2.tape = w1.tape ∧ w2.output = w1.output := by
    obtain ⟨b0, hb0⟩ : ∃ b0, (Value.int .i64 p.kind) = b0 := ⟨_, rfl⟩
    obtain ⟨b1, hb1⟩ : ∃ b1, txt p.text = b1 := ⟨_, rfl⟩
    obtain ⟨b2, hb2⟩ : ∃ b2, txt p.op = b2 := ⟨_, rfl⟩
    obtain ⟨b4, hb4⟩ : ∃ b4, (Value.bool p.q) = b4 := ⟨_, rfl⟩
    obtain ⟨V, hV⟩ : ∃ V, Value.slice (some ⟨g, 0, none⟩) (ps.length + 1) cap = V := ⟨_, rfl⟩
    have ko : w1.ownsRow B 113 5 (.slice (some ⟨g, 0, none⟩) (ps.length + 1) cap) (ps.length + 1) (rowCells ps vs ++ [.int .i64 0, .string ⟨#[]⟩, .string ⟨#[]⟩, .slice none 0 0, .bool false]) := k.own
    have e5 : pcells p u = [b0, b1, b2, u, b4] := by rw [← hb0, ← hb1, ← hb2, ← hb4]; rfl
    rw [hb0, hb1, hb2, hb4] at hw
    rw [e5]
    rw [hV] at hw hne ⊢
    have hne' := hne ⟨W, 0, none⟩ rfl
    rcases hw with hw | hw
    · obtain ⟨X, hX⟩ : ∃ X, w1.setCell ⟨W, 0, none⟩ V = X := ⟨_, rfl⟩
      have kX : X.ownsRow B 113 5 (.slice (some ⟨g, 0, none⟩) (ps.length + 1) cap) (ps.length + 1) (rowCells ps vs ++ [.int .i64 0, .string ⟨#[]⟩, .string ⟨#[]⟩, .slice none 0 0, .bool false]) := by rw [← hX]; exact ownsRow_setCell_other ko (by rw [hV]; exact hne') _
      obtain ⟨s1, s2, s3⟩ := put5_same X g o b0 b1 b2 u b4
      obtain ⟨r1, r2, r3, r4⟩ := set_same w1 ⟨W, 0, none⟩ V
      rw [hX] at r1 r2 r3 r4 hw
      rw [hw]
      refine ⟨by rw [← hV]; exact put5_own kX o hL b0 b1 b2 u b4, ?_, fun j h1 h2 => ?_, ?_, s1.trans r1, s2.trans r2, s3.trans r3⟩
      · rw [put5_other _ _ _ _ _ _ _ _ _ (Ne.symm x2), ← hX]; exact heap_set_one hh1 _
      · rw [put5_other _ _ _ _ _ _ _ _ _ h1, ← hX, Below.heap_setCell _ _ _ _ h2]
      · rw [put5_size, r4]
    · obtain ⟨X, hX⟩ : ∃ X, put5 w1 g o b0 b1 b2 u b4 = X := ⟨_, rfl⟩
      have kX : X.ownsRow B 113 5 (.slice (some ⟨g, 0, none⟩) (ps.length + 1) cap) (ps.length + 1) (rowCells ps vs ++ [b0, b1, b2, u, b4]) := by rw [← hX]; exact put5_own ko o hL b0 b1 b2 u b4
      obtain ⟨s1, s2, s3⟩ := put5_same w1 g o b0 b1 b2 u b4
      have s4 := put5_size w1 g o b0 b1 b2 u b4
      have s5 := fun j h => put5_other w1 g o b0 b1 b2 u b4 j h
      rw [hX] at s1 s2 s3 s4 s5 hw
      obtain ⟨r1, r2, r3, r4⟩ := set_same X ⟨W, 0, none⟩ V
      rw [hw]
      refine ⟨by rw [← hV]; exact ownsRow_setCell_other kX (by rw [hV]; exact hne') _, heap_set_one ((s5 W (Ne.symm x2)).trans hh1) _, fun j h1 h2 => ?_, r4.trans s4, r1.trans s1, r2.trans s2, r3.trans s3⟩
      rw [Below.heap_setCell _ _ _ _ h2, s5 j h1]
  obtain ⟨y0, y1, y2, y3, y4, y5, y6⟩ := key
  have hgl : (Value.slice (some ⟨g, 0, none⟩) (ps.length + 1) cap).ownBlock = some g := rfl
  have hsame : ∀ j, j < w0.heap.size → j ≠ W → v.ownBlock ≠ some j → w2.heap[j]? = w0.heap[j]? := fun j hj hjW hjv => by
    have hjg : j ≠ g := by
      rcases k.at_ with e | e
      · exact fun e' => hjv (by rw [e, e'])
      · omega
    rw [y2 j hjg hjW, hold j hj hjv]
  obtain ⟨F', hu1, hu2⟩ := hu
  refine ⟨⟨_, vs ++ [u], fun j => F j ∨ F' j, { head := y1, base := h.base, own := ?_, len := by simp [h.len], sub := fun j q x hq hx => ?_, far := fun j hj => ?_, ne := fun e => x2 (by simpa [Value.ownBlock] using e) }⟩, ?_⟩
  · rw [rowCells_append _ _ _ _ h.len]
    simpa [rowCells] using y0
  · rcases Nat.lt_or_ge j ps.length with hj | hj
    · rw [List.getElem?_append_left hj] at hq
      rw [List.getElem?_append_left (by rw [← h.len]; exact hj)] at hx
      exact ((h.sub j q x hq hx).same fun i hi => hsame i (h.far i hi).2.1 (h.far i hi).2.2.1 (h.far i hi).2.2.2).mono fun i hi => .inl hi
    · rw [List.getElem?_append_right hj] at hq
      rw [List.getElem?_append_right (by rw [← h.len]; exact hj)] at hx
      obtain ⟨hj0, hq0⟩ := List.getElem?_eq_some_iff.1 hq
      obtain ⟨_, hx0⟩ := List.getElem?_eq_some_iff.1 hx
      simp only [List.length_singleton] at hj0
      simp only [List.getElem_singleton] at hq0 hx0
      subst hq0 hx0
      exact (hu1.same fun i hi => hsame i (hu2 i hi).2.1 (hu2 i hi).2.2.1 (hu2 i hi).2.2.2).mono fun i hi => .inr hi
  · have hlt : ∀ i, (B ≤ i ∧ i < w0.heap.size ∧ i ≠ W ∧ v.ownBlock ≠ some i) → B ≤ i ∧ i < w2.heap.size ∧ i ≠ W ∧ (Value.slice (some ⟨g, 0, none⟩) (ps.length + 1) cap).ownBlock ≠ some i := fun i ⟨a1, a2, a3, a4⟩ =>
      ⟨a1, by omega, a3, fun e => by
        have e' : g = i := by simpa [Value.ownBlock] using e
        rcases k.at_ with e2 | e2
        · exact a4 (by rw [e2, e'])
        · omega⟩
    exact hj.elim (fun hj => hlt j (h.far j hj)) fun hj => hlt j (hu2 j hj)
  · refine ⟨y4.trans k.grown.os, y5.trans k.grown.tape, y6.trans k.grown.output, by omega, fun j hj hn => hsame j hj (fun e => hn (by rw [e]; exact h.base)) fun e => hn ((World.ownsRow.lt h.own j e).1)⟩

theorem Grown.putA {w0 w1 : World} {B W g cap : Nat} {v : Value} {vs : List Value} {F : Nat → Prop} {ps qs : List Pt} (h : RowO w0 B W v vs F ps) (k : Grown w0 w1 B W v vs ps g cap) (p : Pt) (u : Value)
    (hu : ∃ F', WordV w0 F' u p.word ∧ ∀ g, F' g → B ≤ g ∧ g < w0.heap.size ∧ g ≠ W ∧ v.ownBlock ≠ some g) {N o0 o1 o2 o3 o4 : Nat} {a0 a1 a2 a3 a4 : Value} (hN : N = ps.length + 1)
    (h0 : o0 = ps.length * 5) (h1 : o1 = ps.length * 5 + 1) (h2 : o2 = ps.length * 5 + 2) (h3 : o3 = ps.length * 5 + 3) (h4 : o4 = ps.length * 5 + 4) (ha : [a0, a1, a2, a3, a4] = pcells p u) (hq : qs = ps ++ [p]) :
    RowAt ((((((w1.setCell ⟨W, 0, none⟩ (.slice (some ⟨g, 0, none⟩) N cap)).setCell ⟨g, o0, none⟩ a0).setCell ⟨g, o1, none⟩ a1).setCell ⟨g, o2, none⟩ a2).setCell ⟨g, o3, none⟩ a3).setCell ⟨g, o4, none⟩ a4) B W qs ∧
      Kept (fun k => B ≤ k) w0 ((((((w1.setCell ⟨W, 0, none⟩ (.slice (some ⟨g, 0, none⟩) N cap)).setCell ⟨g, o0, none⟩ a0).setCell ⟨g, o1, none⟩ a1).setCell ⟨g, o2, none⟩ a2).setCell ⟨g, o3, none⟩ a3).setCell ⟨g, o4, none⟩ a4) := by
  subst hN h0 h1 h2 h3 h4 hq
  simp only [pcells, List.cons.injEq, and_true] at ha
  obtain ⟨rfl, rfl, rfl, rfl, rfl⟩ := ha
  have := Grown.put h k p a3 hu (ps.length * 5) rfl _ (.inl rfl)
  unfold put5 at this
  exact this
theorem Grown.putB {w0 w1 : World} {B W g cap : Nat} {v : Value} {vs : List Value} {F : Nat → Prop} {ps qs : List Pt} (h : RowO w0 B W v vs F ps) (k : Grown w0 w1 B W v vs ps g cap) (p : Pt) (u : Value)
    (hu : ∃ F', WordV w0 F' u p.word ∧ ∀ g, F' g → B ≤ g ∧ g < w0.heap.size ∧ g ≠ W ∧ v.ownBlock ≠ some g) {N o0 o1 o2 o3 o4 : Nat} {a0 a1 a2 a3 a4 : Value} (hN : N = ps.length + 1)
    (h0 : o0 = ps.length * 5) (h1 : o1 = ps.length * 5 + 1) (h2 : o2 = ps.length * 5 + 2) (h3 : o3 = ps.length * 5 + 3) (h4 : o4 = ps.length * 5 + 4) (ha : [a0, a1, a2, a3, a4] = pcells p u) (hq : qs = ps ++ [p]) :
    RowAt ((((((w1.setCell ⟨g, o0, none⟩ a0).setCell ⟨g, o1, none⟩ a1).setCell ⟨g, o2, none⟩ a2).setCell ⟨g, o3, none⟩ a3).setCell ⟨g, o4, none⟩ a4).setCell ⟨W, 0, none⟩ (.slice (some ⟨g, 0, none⟩) N cap)) B W qs ∧
      Kept (fun k => B ≤ k) w0 ((((((w1.setCell ⟨g, o0, none⟩ a0).setCell ⟨g, o1, none⟩ a1).setCell ⟨g, o2, none⟩ a2).setCell ⟨g, o3, none⟩ a3).setCell ⟨g, o4, none⟩ a4).setCell ⟨W, 0, none⟩ (.slice (some ⟨g, 0, none⟩) N cap)) := by
  subst hN h0 h1 h2 h3 h4 hq
  simp only [pcells, List.cons.injEq, and_true] at ha
  obtain ⟨rfl, rfl, rfl, rfl, rfl⟩ := ha
  have := Grown.put h k p a3 hu (ps.length * 5) rfl _ (.inr rfl)
  unfold put5 at this
  exact this
end Go.Proofs.YtakceggnadagmaaGreatDoor

namespace Go.Proofs.YtakceggnadagmaaGreatDoor
open Go Go.RowKit GlyphMath LexMath



/-- A row with at least one part. -/
theorem RowO.form {w : World} {B W : Nat} {v : Value} {vs : List Value} {F : Nat → Prop} {ps : List Pt} {p : Pt} (h : RowO w B W v vs F (ps ++ [p])) :
    ∃ A cap vs0 u, v = .slice (some ⟨A, 0, none⟩) (ps.length + 1) cap ∧ vs = vs0 ++ [u] ∧ ps.length = vs0.length ∧ B ≤ A ∧ A < w.heap.size ∧ A ≠ W ∧
      (∀ i, i < 5 → w.cell? ⟨A, ps.length * 5 + i, none⟩ = (pcells p u)[i]?) ∧ (∀ j, w.frozen? ⟨A, j, none⟩ = false) := by
  have hl := h.len
  rw [List.length_append, List.length_singleton] at hl
  rcases List.eq_nil_or_concat vs with rfl | ⟨vs0, u, rfl⟩
  · simp at hl
  rw [List.concat_eq_append] at h hl ⊢
  rw [List.length_append, List.length_singleton] at hl
  have ho := h.own
  rw [List.length_append, List.length_singleton] at ho
  obtain ⟨A, cap, rfl, hB, hA⟩ := World.ownsRow.form ho (by omega)
  refine ⟨A, cap, vs0, u, rfl, rfl, by omega, hB, hA, fun e => h.ne (by rw [e]; rfl), fun i hi => ?_, ?_⟩
  · rw [ho.cellAt _ (by omega), rowCells_get (ps ++ [p]) (vs0 ++ [u]) ps.length p u (by simp) (by rw [show ps.length = vs0.length by omega]; simp) (by simp; omega) i hi]
  · intro j
    rcases ho.2 with ⟨hv, _⟩ | ⟨g, cap', cur, hv, _, hg, _⟩
    · cases hv
    · cases hv
      exact frozen_plain hg j


/-- The last text is another one. -/
theorem RowO.join {w : World} {B W A cap : Nat} {vs : List Value} {u : Value} {F : Nat → Prop} {ps : List Pt} {p : Pt} (h : RowO w B W (.slice (some ⟨A, 0, none⟩) (ps.length + 1) cap) (vs ++ [u]) F (ps ++ [p])) (t : List UInt8) :
    RowO (w.setCell ⟨A, ps.length * 5 + 1, none⟩ (txt t)) B W (.slice (some ⟨A, 0, none⟩) (ps.length + 1) cap) (vs ++ [u]) F (ps ++ [{ p with text := t }]) := by
  have hl := h.len
  simp only [List.length_append, List.length_singleton] at hl
  have ho := h.own
  rw [List.length_append, List.length_singleton] at ho
  have hne : A ≠ W := fun e => h.ne (by rw [e]; rfl)
  have hk : ∀ g, g ≠ A → (w.setCell ⟨A, ps.length * 5 + 1, none⟩ (txt t)).heap[g]? = w.heap[g]? := fun g hg => Below.heap_setCell _ _ _ _ hg
  have hsz : (w.setCell ⟨A, ps.length * 5 + 1, none⟩ (txt t)).heap.size = w.heap.size := by simp [World.setCell]
  have hs := (ho.stored (ps.length * 5 + 1) (txt t)).1
  rw [rowCells_set ps vs p u t (by omega)] at hs
  refine { head := (hk W (Ne.symm hne)).trans h.head, base := h.base, own := ?_, len := by simpa using h.len, sub := fun j q x hq hx => ?_, far := fun g hg => ?_, ne := h.ne }
  · simpa using hs
  · have hsub : ∀ q', (ps ++ [p])[j]? = some q' → q'.word = q.word → WordV (w.setCell ⟨A, ps.length * 5 + 1, none⟩ (txt t)) F x q.word := fun q' hq' e => by
      rw [← e]
      exact (h.sub j q' x hq' hx).same fun g hg => hk g fun e => (h.far g hg).2.2.2 (by rw [e]; rfl)
    rcases Nat.lt_or_ge j ps.length with hj | hj
    · rw [List.getElem?_append_left hj] at hq
      exact hsub q (by rw [List.getElem?_append_left hj]; exact hq) rfl
    · rw [List.getElem?_append_right hj] at hq
      obtain ⟨hj0, hq0⟩ := List.getElem?_eq_some_iff.1 hq
      simp only [List.length_singleton] at hj0
      obtain rfl : j = ps.length := by omega
      refine hsub p (by simp) ?_
      rw [← hq0]; simp
  · rw [hsz]; exact h.far g hg

set_option maxHeartbeats 1000000 in
theorem lit_join {w : World} {B W : Nat} {ps : List Pt} {p : Pt} (h : RowAt w B W (ps ++ [p])) (t : List UInt8) (hk : p.kind = 1) (hs : p.text.length + t.length ≤ 100000) (hn : ps.length ≤ 10000) :
    Calls Tryz.prog 126 #[.pointer (some ⟨W, 0, none⟩), txt t, .bool p.q] w fun e w' => e = .returned (.tuple #[]) ∧ RowAt w' B W (ps ++ [{ p with text := p.text ++ t }]) ∧ Kept (fun k => B ≤ k) w w' := by
  obtain ⟨pk, T, O, D, q⟩ := p
  simp only at hk hs ⊢
  subst hk
  obtain ⟨v, vs, F, h⟩ := h
  obtain ⟨A, cap, vs0, u, rfl, rfl, hl, hB, hA, hAW, hc, hf⟩ := h.form
  have c0 := h.cell0
  have k0 := hc 0 (by omega)
  have k1 := hc 1 (by omega)
  have k4 := hc 4 (by omega)
  simp only [pcells, List.getElem?_cons_zero, List.getElem?_cons_succ, Nat.add_zero] at k0 k1 k4
  have f1 := hf (ps.length * 5 + 1)
  have HJ := Lib.hid (h.join (T ++ t))
  obtain ⟨n, hn'⟩ : ∃ n, ps.length = n := ⟨_, rfl⟩
  rw [hn'] at c0 k0 k1 k4 f1
  have HN := Lib.hid hn'
  obtain ⟨a, ha⟩ : ∃ a : ByteArray, a = ⟨T.toArray⟩ := ⟨_, rfl⟩
  obtain ⟨b, hb⟩ : ∃ b : ByteArray, b = ⟨t.toArray⟩ := ⟨_, rfl⟩
  have hsz : ¬ (9223372036854775807 : Int) < (a.size : Int) + (b.size : Int) := by rw [ha, hb, bytes_size, bytes_size]; omega
  have HAB := Lib.hid (show (.string (a ++ b) : Value) = txt (T ++ t) by rw [ha, hb, bytes_append]; rfl)
  rw [show txt T = .string a by rw [ha]; rfl] at k1
  rw [show txt t = .string b by rw [hb]; rfl]
  have HBA := Lib.hid hB
  have hn1 : (n : Int) ≤ 10000 := by omega
  have hn0 : (0 : Int) ≤ n := by omega
  clear h hc hf hl hB hA hs hn hn' ha hb
  go_enter Tryz.func126, Tryz.ntmps126
  go_wp2_with fail
  refine bodyPost_ret (results_none rfl _ _ _) rfl ?_
  have hj := HJ.out
  rw [HN.out] at hj
  rw [HAB.out]
  exact ⟨rfl, ⟨_, _, F, hj⟩, Kept.setCell (D := fun k => B ≤ k) (Kept.refl _ _) (.inl HBA.out) _⟩


end Go.Proofs.YtakceggnadagmaaGreatDoor

namespace Go.Proofs.YtakceggnadagmaaGreatDoor
open Go Go.RowKit GlyphMath LexMath

set_option maxHeartbeats 600000 in
set_option maxRecDepth 100000 in
theorem lit_first {w : World} {B W : Nat} (h : RowAt w B W []) (t : List UInt8) (q : Bool) (hBw : B ≤ w.heap.size) :
    Calls Tryz.prog 126 #[.pointer (some ⟨W, 0, none⟩), txt t, .bool q] w fun e w' => e = .returned (.tuple #[]) ∧ RowAt w' B W [⟨1, t, [], [], q⟩] ∧ Kept (fun k => B ≤ k) w w' := by
  obtain ⟨v, vs, F, h⟩ := h
  obtain ⟨a, c, rfl⟩ := h.shape
  have c0 := h.cell0
  have f0 := h.frozen0
  obtain ⟨i0, hi0, hz0, hz1, hz2⟩ := info_parts infoPart
  have HI := Lib.hid (And.intro hi0 (And.intro hz0 (And.intro hz1 hz2)))
  have HO := Lib.hid h.own
  simp only [List.length_nil] at c0
  have HC := Lib.hid (show 0 + 1 ≤ maxLen ∧ (0 + 1) * 72 ≤ 140737488355328 ∧ B ≤ w.heap.size from ⟨by decide, by decide, hBw⟩)
  have cA : ∀ o1, (w.alloc o1).cell? ⟨W, 0, none⟩ = some (.slice a 0 c) := fun o1 => (World.cell?_alloc_lt _ _ _ h.lt).trans c0
  obtain ⟨b, hb⟩ : ∃ b : ByteArray, b = ⟨t.toArray⟩ := ⟨_, rfl⟩
  rw [show txt t = .string b by rw [hb]; rfl]
  have HH := Lib.hid h
  have HTB := Lib.hid hb
  clear h hi0 hz0 hz1 hz2 hBw hb
  go_enter Tryz.func126, Tryz.ntmps126
  go_wp2_with fail
  go_region_law (refine step_append_lies _ (by rfl) (.tmp 55) (.tmp 60) 68 (by rfl) B 113 i0 (.agg zeroPart) 5 72 Tryz.underlying68 HI.out.1 HI.out.2.1 HI.out.2.2.1 HI.out.2.2.2 (by rfl) (by decide) _ _ _ (by rfl) ((HO.out.alloc _)) ⟨w.heap.size, 0, none⟩ 1 1 zeroPart.toList (by rfl) (by rfl) (new_block w _ _) (by decide) (by decide) HC.out.1 HC.out.2.1 (by have := HC.out.2.2; simp; omega) (w.heap.size + 1) (by simp) ?_; intro g cap w1 hown hgrow hat hlt; have HG := Lib.hid (show Grown w w1 B W _ vs [] g cap from ⟨hown, hgrow, hat, hlt⟩); obtain ⟨x0, x1, x2, x3, x4⟩ := HG.out.facts HH.out; have d0 := x3 0 (by decide); have d1 := x3 1 (by decide); have d2 := x3 2 (by decide); have d3 := x3 3 (by decide); have d4 := x3 4 (by decide); have e0 := x4 0; have e1 := x4 (0 + 1); have e2 := x4 (0 + 2); have e3 := x4 (0 + 3); have e4 := x4 (0 + 4); simp [zeroPart] at d0 d1 d2 d3 d4 e0 e1 e2 e3 e4;  clear hown hgrow hat hlt x3 x4)
  all_goals
    go_wp2_with fail
    go_end0
    have hb := HTB.out
    subst hb
    refine ⟨rfl, ?_⟩
    first
      | (with_reducible refine Grown.putA (ps := []) HH.out HG.out ⟨1, t, [], [], q⟩ (.slice none 0 0) ⟨_, WordV.nil _ (fun _ => False), fun _ h => h.elim⟩ ?_ ?_ ?_ ?_ ?_ ?_ ?_ ?_) <;> rfl
      | (with_reducible refine Grown.putB (ps := []) HH.out HG.out ⟨1, t, [], [], q⟩ (.slice none 0 0) ⟨_, WordV.nil _ (fun _ => False), fun _ h => h.elim⟩ ?_ ?_ ?_ ?_ ?_ ?_ ?_ ?_) <;> rfl
end Go.Proofs.YtakceggnadagmaaGreatDoor

namespace Go.Proofs.YtakceggnadagmaaGreatDoor
open Go Go.RowKit GlyphMath LexMath

set_option maxHeartbeats 600000 in
set_option maxRecDepth 100000 in
theorem lit_more {w : World} {B W : Nat} {ps : List Pt} {p : Pt} (h : RowAt w B W (ps ++ [p])) (t : List UInt8) (q : Bool) (hno : ¬ (p.kind = 1 ∧ p.q = q)) (hn : ps.length ≤ 10000) (hBw : B ≤ w.heap.size) :
    Calls Tryz.prog 126 #[.pointer (some ⟨W, 0, none⟩), txt t, .bool q] w fun e w' => e = .returned (.tuple #[]) ∧ RowAt w' B W (ps ++ [p] ++ [⟨1, t, [], [], q⟩]) ∧ Kept (fun k => B ≤ k) w w' := by
  obtain ⟨pk, T, O, D, pq⟩ := p
  simp only at hno
  obtain ⟨v, vs, F, h⟩ := h
  obtain ⟨A, cp, vs0, u, rfl, rfl, hl, hB, hA, hAW, hc, hf⟩ := h.form
  have c0 := h.cell0
  have f0 := h.frozen0
  have k0 := hc 0 (by omega)
  have k4 := hc 4 (by omega)
  simp only [pcells, List.getElem?_cons_zero, List.getElem?_cons_succ, Nat.add_zero] at k0 k4
  obtain ⟨i0, hi0, hz0, hz1, hz2⟩ := info_parts infoPart
  have HI := Lib.hid (And.intro hi0 (And.intro hz0 (And.intro hz1 hz2)))
  have ho := h.own
  have hln : (ps ++ [(⟨pk, T, O, D, pq⟩ : Pt)]).length = ps.length + 1 := by simp
  rw [hln] at ho
  obtain ⟨n, hn'⟩ : ∃ n, ps.length = n := ⟨_, rfl⟩
  rw [hn'] at c0 k0 k4 ho hln
  have HO := Lib.hid ho
  have HN := Lib.hid hn'
  have HLN := Lib.hid hln
  have HC := Lib.hid (show n + 1 + 1 ≤ maxLen ∧ (n + 1 + 1) * 72 ≤ 140737488355328 ∧ B ≤ w.heap.size from ⟨by unfold maxLen; omega, by omega, hBw⟩)
  have cA : ∀ o1, (w.alloc o1).cell? ⟨W, 0, none⟩ = some (.slice (some ⟨A, 0, none⟩) (n + 1) cp) := fun o1 => (World.cell?_alloc_lt _ _ _ h.lt).trans c0
  obtain ⟨b, hb⟩ : ∃ b : ByteArray, b = ⟨t.toArray⟩ := ⟨_, rfl⟩
  rw [show txt t = .string b by rw [hb]; rfl]
  have HH := Lib.hid (show RowO w B W (.slice (some ⟨A, 0, none⟩) (n + 1) cp) (vs0 ++ [u]) F (ps ++ [⟨pk, T, O, D, pq⟩]) by rw [← hn']; exact h)
  have HTB := Lib.hid hb
  have hn1 : (n : Int) ≤ 10000 := by omega
  have hn0 : (0 : Int) ≤ n := by omega
  have hn2 : (0 : Int) ≤ (n : Int) + 1 := by omega
  have hn3 : (n : Int) < (n : Int) + 1 := by omega
  clear h hi0 hz0 hz1 hz2 hBw hb hc hf hl hB hA hn hn' ho hln
  by_cases hk : pk = 1
  · have hq : ¬ pq = q := fun e => hno ⟨hk, e⟩
    have hqq : (pq == q) = false := by simpa using hq
    subst hk
    clear hno hq
    go_enter Tryz.func126, Tryz.ntmps126
    go_wp2_with fail
    go_region_law (refine step_append_lies _ (by rfl) (.tmp 55) (.tmp 60) 68 (by rfl) B 113 i0 (.agg zeroPart) 5 72 Tryz.underlying68 HI.out.1 HI.out.2.1 HI.out.2.2.1 HI.out.2.2.2 (by rfl) (by decide) _ _ _ (by rfl) ((HO.out.alloc _)) ⟨w.heap.size, 0, none⟩ 1 1 zeroPart.toList (by rfl) (by rfl) (new_block w _ _) (by decide) (by decide) HC.out.1 HC.out.2.1 (by have := HC.out.2.2; simp; omega) (w.heap.size + 1) (by simp) ?_; intro g cap w1 hown hgrow hat hlt; have HG := Lib.hid (show Grown w w1 B W _ (vs0 ++ [u]) (ps ++ [⟨1, T, O, D, pq⟩]) g cap from ⟨by rw [HLN.out]; exact hown, hgrow, hat, hlt⟩); obtain ⟨x0, x1, x2, x3, x4⟩ := HG.out.facts HH.out; have d0 := x3 0 (by decide); have d1 := x3 1 (by decide); have d2 := x3 2 (by decide); have d3 := x3 3 (by decide); have d4 := x3 4 (by decide); have e0 := x4 ((n + 1) * 5); have e1 := x4 (((n + 1) * 5) + 1); have e2 := x4 (((n + 1) * 5) + 2); have e3 := x4 (((n + 1) * 5) + 3); have e4 := x4 (((n + 1) * 5) + 4); rw [HLN.out] at d0 d1 d2 d3 d4; simp [zeroPart] at d0 d1 d2 d3 d4; clear hown hgrow hat hlt x3 x4)
    all_goals
      go_wp2_with fail
      go_end0
      have hb := HTB.out
      subst hb
      refine ⟨rfl, ?_⟩
      first
        | (with_reducible refine Grown.putA (ps := ps ++ [⟨1, T, O, D, pq⟩]) HH.out HG.out ⟨1, t, [], [], q⟩ (.slice none 0 0) ⟨_, WordV.nil _ (fun _ => False), fun _ h => h.elim⟩ ?_ ?_ ?_ ?_ ?_ ?_ ?_ ?_) <;> first | rfl | (rw [HLN.out])
        | (with_reducible refine Grown.putB (ps := ps ++ [⟨1, T, O, D, pq⟩]) HH.out HG.out ⟨1, t, [], [], q⟩ (.slice none 0 0) ⟨_, WordV.nil _ (fun _ => False), fun _ h => h.elim⟩ ?_ ?_ ?_ ?_ ?_ ?_ ?_ ?_) <;> first | rfl | (rw [HLN.out])
  · have hkk : (pk == 1) = false := by simpa using hk
    clear hno hk
    go_enter Tryz.func126, Tryz.ntmps126
    go_wp2_with fail
    go_region_law (refine step_append_lies _ (by rfl) (.tmp 55) (.tmp 60) 68 (by rfl) B 113 i0 (.agg zeroPart) 5 72 Tryz.underlying68 HI.out.1 HI.out.2.1 HI.out.2.2.1 HI.out.2.2.2 (by rfl) (by decide) _ _ _ (by rfl) ((HO.out.alloc _)) ⟨w.heap.size, 0, none⟩ 1 1 zeroPart.toList (by rfl) (by rfl) (new_block w _ _) (by decide) (by decide) HC.out.1 HC.out.2.1 (by have := HC.out.2.2; simp; omega) (w.heap.size + 1) (by simp) ?_; intro g cap w1 hown hgrow hat hlt; have HG := Lib.hid (show Grown w w1 B W _ (vs0 ++ [u]) (ps ++ [⟨pk, T, O, D, pq⟩]) g cap from ⟨by rw [HLN.out]; exact hown, hgrow, hat, hlt⟩); obtain ⟨x0, x1, x2, x3, x4⟩ := HG.out.facts HH.out; have d0 := x3 0 (by decide); have d1 := x3 1 (by decide); have d2 := x3 2 (by decide); have d3 := x3 3 (by decide); have d4 := x3 4 (by decide); have e0 := x4 ((n + 1) * 5); have e1 := x4 (((n + 1) * 5) + 1); have e2 := x4 (((n + 1) * 5) + 2); have e3 := x4 (((n + 1) * 5) + 3); have e4 := x4 (((n + 1) * 5) + 4); rw [HLN.out] at d0 d1 d2 d3 d4; simp [zeroPart] at d0 d1 d2 d3 d4; clear hown hgrow hat hlt x3 x4)
    all_goals
      go_wp2_with fail
      go_end0
      have hb := HTB.out
      subst hb
      refine ⟨rfl, ?_⟩
      first
        | (with_reducible refine Grown.putA (ps := ps ++ [⟨pk, T, O, D, pq⟩]) HH.out HG.out ⟨1, t, [], [], q⟩ (.slice none 0 0) ⟨_, WordV.nil _ (fun _ => False), fun _ h => h.elim⟩ ?_ ?_ ?_ ?_ ?_ ?_ ?_ ?_) <;> first | rfl | (rw [HLN.out])
        | (with_reducible refine Grown.putB (ps := ps ++ [⟨pk, T, O, D, pq⟩]) HH.out HG.out ⟨1, t, [], [], q⟩ (.slice none 0 0) ⟨_, WordV.nil _ (fun _ => False), fun _ h => h.elim⟩ ?_ ?_ ?_ ?_ ?_ ?_ ?_ ?_) <;> first | rfl | (rw [HLN.out])
end Go.Proofs.YtakceggnadagmaaGreatDoor

namespace Go.Proofs.YtakceggnadagmaaGreatDoor
open Go Go.RowKit GlyphMath LexMath

theorem int_eq (r k : Nat) : ((r : Int) == (k : Int)) = (r == k) := by
  apply Bool.eq_iff_iff.2
  rw [beq_iff_eq, beq_iff_eq]
  omega

theorem stops_quote : Stops 145 #[] (fun r => r == 39) (fun _ => True) where
  enter := enters_of Tryz.func145 (by kernel_rfl) rfl
  call := fun r W _ _ => by
    have HR := Lib.hid (int_eq r 39)
    show Calls Tryz.prog 145 #[.int .i32 (r : Int)] W _
    go_enter Tryz.func145, Tryz.ntmps145
    go_wp2_with fail
    go_ret
    exact ⟨ret_bool HR.out, Below.refl _ _⟩
theorem stops_lf : Stops 73 #[] (fun r => r == 10) (fun _ => True) where
  enter := enters_of Tryz.func73 (by kernel_rfl) rfl
  call := fun r W _ _ => by
    have HR := Lib.hid (int_eq r 10)
    show Calls Tryz.prog 73 #[.int .i32 (r : Int)] W _
    go_enter Tryz.func73, Tryz.ntmps73
    go_wp2_with fail
    go_ret
    exact ⟨ret_bool HR.out, Below.refl _ _⟩
theorem stops_blank : Stops 71 #[] (fun r => r != 32 && r != 9) (fun _ => True) where
  enter := enters_of Tryz.func71 (by kernel_rfl) rfl
  call := fun r W _ _ => by
    show Calls Tryz.prog 71 #[.int .i32 (r : Int)] W _
    by_cases h1 : r = 32
    · subst h1
      go_enter Tryz.func71, Tryz.ntmps71
      go_wp2_with fail
      go_ret
      exact ⟨rfl, Below.refl _ _⟩
    · have e1 : ((r : Int) != 32) = true := by
        have : ¬ (r : Int) = 32 := by omega
        simpa using this
      have HR := Lib.hid (show ((r : Int) != 9) = (r != 32 && r != 9) by
        have h2 := int_eq r 9
        have h3 : (r != 32) = true := by simpa using h1
        rw [h3, Bool.true_and]
        show (!((r : Int) == 9)) = !(r == 9)
        rw [← h2]; rfl)
      clear h1
      go_enter Tryz.func71, Tryz.ntmps71
      go_wp2_with fail
      go_ret
      exact ⟨ret_bool HR.out, Below.refl _ _⟩
theorem stops_name : Stops 176 #[] (fun r => !moreR r) (fun _ => True) where
  enter := enters_of Tryz.func176 (by kernel_rfl) rfl
  call := fun r W _ _ => by
    show Calls Tryz.prog 176 #[.int .i32 (r : Int)] W _
    go_enter Tryz.func176, Tryz.ntmps176
    go_wp2_with (go_at_call 177; refine (more_any _ _).mono ?_; rintro e w1 ⟨rfl, rfl⟩)
    go_ret
    exact ⟨rfl, Below.refl _ _⟩
theorem stops_acts : Stops 152 #[] acts (fun _ => True) where
  enter := enters_of Tryz.func152 (by kernel_rfl) rfl
  call := fun r W hr _ => acts_any r hr W
theorem stops_part (D n : Nat) : Stops 127 #[.pointer (some ⟨D, 0, none⟩)] (fun r => begins r || ends r (decide (0 < n))) (fun W => W.cell? ⟨D, 0, none⟩ = some (.int .i64 (n : Int))) where
  enter := enters_of Tryz.func127 (by kernel_rfl) rfl
  call := fun r W hr hW => by
    show Calls Tryz.prog 127 #[.int .i32 (r : Int), .pointer (some ⟨D, 0, none⟩)] W _
    have HB := Lib.hid (begins_any r hr W)
    obtain ⟨b, hb⟩ : ∃ b, begins r = b := ⟨_, rfl⟩
    have HR := Lib.hid hr
    rw [hb] at HB
    rw [hb]
    clear hr hb
    cases b
    all_goals
      go_enter Tryz.func127, Tryz.ntmps127
      go_wp2_with (first
        | (go_at_call 128; refine HB.out.mono ?_; rintro e w1 ⟨rfl, hb1⟩; have HB1 := Lib.hid hb1; have hc1 := (hb1.cell (World.block_lt_of_cell? W _ hW)).trans hW; have HE := Lib.hid (ends_any r n HR.out w1); clear hb1)
        | (go_at_call 100; refine HE.out.mono ?_; rintro e w2 ⟨rfl, hb2⟩; have HB2 := Lib.hid hb2; clear hb2))
      go_ret
    · exact ⟨by simp, HB1.out.trans (HB2.out.mono HB1.out.size)⟩
    · exact ⟨by simp, HB1.out⟩
end Go.Proofs.YtakceggnadagmaaGreatDoor
