/-
  Proved: texts joined: Proved: how a word's parts lie in memory, and what keeps them there. Conditions: as each says.
  Proved: how a word's parts, words, nodes lie in memory, for whoever only reads them, and that they stay. Conditions: as each says.
  Proved: plain facts on a parser by tokens: what is left of the tokens behind each thing that it takes. Conditions: as each says.
-/
import Derived.Test.YtakceggnadagmaaGreatDoorPj01
import Derived.Test.YtakceggnadagmaaGreatDoorRows
import Derived.Deep.MidRow
import Derived.Deep.AppendLies
import Derived.Lib.Hide
import Derived.WalkKit
import Derived.OwnWalk
import Derived.Lib.FrozenHead
import Derived.Below
namespace Go.Proofs.YtakceggnadagmaaGreatDoor
open Go Go.RowKit GlyphMath LexMath

/-- What a call may turn: of the blocks that there were none but those of D. -/
structure Kept (D : Nat → Prop) (w w' : World) : Prop where
  os : w'.os = w.os
  tape : w'.tape = w.tape
  output : w'.output = w.output
  size : w.heap.size ≤ w'.heap.size
  block : ∀ k, k < w.heap.size → ¬ D k → w'.heap[k]? = w.heap[k]?

theorem Kept.refl (D : Nat → Prop) (w : World) : Kept D w w := ⟨rfl, rfl, rfl, Nat.le_refl _, fun _ _ _ => rfl⟩
theorem Kept.mono {D D' : Nat → Prop} {w w' : World} (h : Kept D w w') (hD : ∀ k, k < w.heap.size → D k → D' k) : Kept D' w w' :=
  ⟨h.os, h.tape, h.output, h.size, fun k hk hn => h.block k hk fun hd => hn (hD k hk hd)⟩
theorem Kept.trans {D D' : Nat → Prop} {a b c : World} (h : Kept D a b) (k : Kept D' b c) (hD : ∀ i, D' i → D i ∨ a.heap.size ≤ i) : Kept D a c :=
  ⟨k.os.trans h.os, k.tape.trans h.tape, k.output.trans h.output, Nat.le_trans h.size k.size, fun i hi hn =>
    (k.block i (Nat.lt_of_lt_of_le hi h.size) fun hd => (hD i hd).elim hn fun h' => by omega).trans (h.block i hi hn)⟩
theorem Kept.on {D : Nat → Prop} {a b c : World} (h : Kept D a b) (k : Kept D b c) : Kept D a c := h.trans k fun _ h => .inl h
theorem Kept.drew {D : Nat → Prop} {a w : World} (h : Kept D a w) : Kept D a w.drew := ⟨h.os, h.tape, h.output, h.size, h.block⟩
theorem Kept.alloc {D : Nat → Prop} {a w : World} (h : Kept D a w) (o : Obj) : Kept D a (w.alloc o) :=
  ⟨h.os, h.tape, h.output, Nat.le_trans h.size (by simp), fun k hk hn => (Below.heap_alloc w o k (Nat.lt_of_lt_of_le hk h.size)).trans (h.block k hk hn)⟩
theorem Kept.setCell {D : Nat → Prop} {a w : World} (h : Kept D a w) {p : Addr} (hp : D p.block ∨ a.heap.size ≤ p.block) (u : Value) : Kept D a (w.setCell p u) :=
  ⟨h.os, h.tape, h.output, by have := h.size; simpa [World.setCell] using this, fun k hk hn => (Below.heap_setCell w p u k (fun e => by subst e; exact hp.elim hn fun h' => by omega)).trans (h.block k hk hn)⟩
theorem Kept.grown {D : Nat → Prop} {a w w' : World} {row : Option Nat} (h : Kept D a w) (hg : w.grownBy w' row) (hr : ∀ k, row = some k → D k ∨ a.heap.size ≤ k) : Kept D a w' :=
  ⟨hg.os.trans h.os, hg.tape.trans h.tape, hg.output.trans h.output, Nat.le_trans h.size hg.size, fun k hk hn =>
    (hg.block k (Nat.lt_of_lt_of_le hk h.size) (fun e => (hr k e.symm).elim hn fun h' => by omega)).trans (h.block k hk hn)⟩
theorem Kept.below {D : Nat → Prop} {w w' : World} (h : Kept D w w') {B : Nat} (hB : ∀ k, D k → B ≤ k) (hw : B ≤ w.heap.size) : Below B w w' :=
  ⟨h.os, h.tape, h.output, h.size, fun k hk => h.block k (by omega) fun hd => by have := hB k hd; omega⟩
theorem Kept.of_below {D : Nat → Prop} {w w' : World} (h : Below w.heap.size w w') : Kept D w w' := ⟨h.os, h.tape, h.output, h.size, fun k hk _ => h.block k hk⟩
theorem Kept.cell {D : Nat → Prop} {w w' : World} (h : Kept D w w') {a : Addr} {v : Value} (hc : w.cell? a = some v) (hn : ¬ D a.block) : w'.cell? a = some v :=
  (World.cell?_of_block (h.block a.block (World.block_lt_of_cell? w a hc) hn)).trans hc
theorem Kept.heap {D : Nat → Prop} {w w' : World} (h : Kept D w w') {k : Nat} {o : Obj} (hk : w.heap[k]? = some o) (hn : ¬ D k) : w'.heap[k]? = some o :=
  (h.block k (Array.getElem?_eq_some_iff.1 hk).1 hn).trans hk

theorem cell_plain {w : World} {k : Nat} {cs : Array Value} {t : TypeId} {fz : Nat × Nat} (h : w.heap[k]? = some (.cells cs t fz)) (o : Nat) : w.cell? ⟨k, o, none⟩ = cs[o]? := cell_of_row w k o cs t fz h
theorem frozen_plain {w : World} {k : Nat} {cs : Array Value} {t : TypeId} (h : w.heap[k]? = some (.cells cs t (0, 0))) (o : Nat) : w.frozen? ⟨k, o, none⟩ = false := Lib.frozen_of_heap h o
theorem heap_set_one {w : World} {k : Nat} {v : Value} {t : TypeId} (h : w.heap[k]? = some (.cells #[v] t (0, 0))) (u : Value) : (w.setCell ⟨k, 0, none⟩ u).heap[k]? = some (.cells #[u] t (0, 0)) := by
  simp [World.setCell, Array.getElem?_modify, h]

/-! ### Parts -/
def txt (l : List UInt8) : Value := .string ⟨l.toArray⟩
/-- A part as cells, its word as that value. -/
def pcells (p : Pt) (wv : Value) : List Value := [.int .i64 p.kind, txt p.text, txt p.op, wv, .bool p.q]
/-- A part as a value. -/
def partV (p : Pt) (u : Value) : Value := .agg #[.int .i64 p.kind, txt p.text, txt p.op, u, .bool p.q]
def rowCells : List Pt → List Value → List Value
  | p :: ps, v :: vs => pcells p v ++ rowCells ps vs
  | _, _ => []
theorem rowCells_append : ∀ (ps : List Pt) (vs : List Value) (qs : List Pt) (us : List Value), ps.length = vs.length → rowCells (ps ++ qs) (vs ++ us) = rowCells ps vs ++ rowCells qs us
  | [], [], _, _, _ => rfl
  | p :: ps, v :: vs, qs, us, h => by
    simp only [List.cons_append, rowCells, rowCells_append ps vs qs us (by simpa using h), List.append_assoc]
  | [], _ :: _, _, _, h => by simp at h
  | _ :: _, [], _, _, h => by simp at h
theorem rowCells_length : ∀ (ps : List Pt) (vs : List Value), ps.length = vs.length → (rowCells ps vs).length = ps.length * 5
  | [], [], _ => rfl
  | p :: ps, v :: vs, h => by
    rw [rowCells, List.length_append, rowCells_length ps vs (by simpa using h), List.length_cons]
    simp only [pcells, List.length_cons, List.length_nil]; omega
  | [], _ :: _, h => by simp at h
  | _ :: _, [], h => by simp at h
theorem rowCells_get : ∀ (ps : List Pt) (vs : List Value) (j : Nat) (p : Pt) (v : Value), ps[j]? = some p → vs[j]? = some v → ps.length = vs.length → ∀ i, i < 5 → (rowCells ps vs)[j * 5 + i]? = (pcells p v)[i]?
  | [], _, _, _, _, h, _, _, _, _ => by simp at h
  | _ :: _, [], _, _, _, _, h, _, _, _ => by simp at h
  | a :: ps, b :: vs, 0, p, v, h1, h2, _, i, hi => by
    simp only [List.getElem?_cons_zero, Option.some.injEq] at h1 h2
    subst h1 h2
    rw [rowCells, Nat.zero_mul, Nat.zero_add, List.getElem?_append_left (by simp [pcells]; omega)]
  | a :: ps, b :: vs, j + 1, p, v, h1, h2, hl, i, hi => by
    simp only [List.getElem?_cons_succ] at h1 h2
    rw [rowCells, show (j + 1) * 5 + i = 5 + (j * 5 + i) by omega, List.getElem?_append_right (by simp [pcells])]
    simpa [pcells] using rowCells_get ps vs j p v h1 h2 (by simpa using hl) i hi

/-- A value that is a row of parts, in blocks of F. -/
inductive WordV (w : World) (F : Nat → Prop) : Value → List Pt → Prop
  | row (v : Value) (ps : List Pt) (vs : List Value) : w.ownsRow 0 113 5 v ps.length (rowCells ps vs) → ps.length = vs.length → (∀ g, v.ownBlock = some g → F g) →
      (∀ (j : Nat) (p : Pt) (u : Value), ps[j]? = some p → vs[j]? = some u → WordV w F u p.word) → WordV w F v ps

theorem ownsRow_same {w w' : World} {B e size n : Nat} {v : Value} {xs : List Value} (h : w.ownsRow B e size v n xs) (hk : ∀ g, v.ownBlock = some g → w'.heap[g]? = w.heap[g]?) : w'.ownsRow B e size v n xs := by
  refine ⟨h.1, ?_⟩
  rcases h.2 with hn | ⟨g, cap, cur, hv, hbg, hg, r⟩
  · exact .inl hn
  · exact .inr ⟨g, cap, cur, hv, hbg, (hk g (by rw [hv]; rfl)).trans hg, r⟩
theorem ownsRow_base {w : World} {B C e size n : Nat} {v : Value} {xs : List Value} (h : w.ownsRow B e size v n xs) (hC : ∀ g, v.ownBlock = some g → C ≤ g) : w.ownsRow C e size v n xs := by
  refine ⟨h.1, ?_⟩
  rcases h.2 with hn | ⟨g, cap, cur, hv, hbg, hg, r⟩
  · exact .inl hn
  · exact .inr ⟨g, cap, cur, hv, hC g (by rw [hv]; rfl), hg, r⟩
theorem WordV.same {w w' : World} {F : Nat → Prop} {v : Value} {ps : List Pt} (h : WordV w F v ps) (hk : ∀ g, F g → w'.heap[g]? = w.heap[g]?) : WordV w' F v ps := by
  induction h with
  | row v ps vs h1 h2 h3 _ ih => exact .row v ps vs (ownsRow_same h1 fun g hg => hk g (h3 g hg)) h2 h3 ih
theorem WordV.mono {w : World} {F F' : Nat → Prop} {v : Value} {ps : List Pt} (h : WordV w F v ps) (hF : ∀ g, F g → F' g) : WordV w F' v ps := by
  induction h with
  | row v ps vs h1 h2 h3 _ ih => exact .row v ps vs h1 h2 (fun g hg => hF g (h3 g hg)) ih
theorem WordV.nil (w : World) (F : Nat → Prop) : WordV w F (.slice none 0 0) [] :=
  .row _ [] [] (World.ownsRow_nil _ _ _ _) rfl (fun _ h => by simp [Value.ownBlock] at h) (fun _ _ _ h => by simp at h)
/-- A word in new blocks. -/
def WordN (w : World) (B : Nat) (v : Value) (ps : List Pt) : Prop := ∃ F, WordV w F v ps ∧ ∀ g, F g → B ≤ g ∧ g < w.heap.size
theorem WordN.nil (w : World) (B : Nat) : WordN w B (.slice none 0 0) [] := ⟨fun _ => False, WordV.nil _ _, fun _ h => h.elim⟩
theorem WordN.kept {D : Nat → Prop} {w w' : World} {B : Nat} {v : Value} {ps : List Pt} (h : WordN w B v ps) (hk : Kept D w w') (hD : ∀ k, B ≤ k → ¬ D k) : WordN w' B v ps := by
  obtain ⟨F, h1, h2⟩ := h
  exact ⟨F, h1.same fun g hg => hk.block g (h2 g hg).2 (hD g (h2 g hg).1), fun g hg => ⟨(h2 g hg).1, Nat.lt_of_lt_of_le (h2 g hg).2 hk.size⟩⟩
theorem WordN.base {w : World} {B C : Nat} {v : Value} {ps : List Pt} (h : WordN w B v ps) (hC : C ≤ B) : WordN w C v ps := by
  obtain ⟨F, h1, h2⟩ := h
  exact ⟨F, h1, fun g hg => ⟨Nat.le_trans hC (h2 g hg).1, (h2 g hg).2⟩⟩
end Go.Proofs.YtakceggnadagmaaGreatDoor

namespace Go.Proofs.YtakceggnadagmaaGreatDoor
open Go Go.RowKit GlyphMath LexMath TreeMath

/-- The k-th of a row, by its cells. -/
def SpotAt (w : World) (p : Option Addr) (k size : Nat) (cs : List Value) : Prop := ∃ b o, p = some ⟨b, o, none⟩ ∧ ∀ i u, cs[i]? = some u → w.cell? ⟨b, o + k * size + i, none⟩ = some u
theorem SpotAt.below {w w' : World} {p : Option Addr} {k size : Nat} {cs : List Value} (h : SpotAt w p k size cs) (hb : Below w.heap.size w w') : SpotAt w' p k size cs := by
  obtain ⟨b, o, hp, hc⟩ := h
  refine ⟨b, o, hp, fun i u hu => ?_⟩
  have := hc i u hu
  rw [hb.cell (p := ⟨b, _, none⟩) (World.block_lt_of_cell? w _ this)]
  exact this

/-- A value that is a row of parts. -/
inductive PsAt (w : World) : Value → List Pt → Prop
  | mk (p : Option Addr) (c : Nat) (ps : List Pt) (us : List Value) : us.length = ps.length → ps.length ≤ maxLen →
      (∀ k q u, ps[k]? = some q → us[k]? = some u → SpotAt w p k 5 (pcells q u)) → (∀ (k : Nat) (q : Pt) (u : Value), ps[k]? = some q → us[k]? = some u → PsAt w u q.word) → PsAt w (.slice p ps.length c) ps
theorem PsAt.stays {w w' : World} {v : Value} {ps : List Pt} (h : PsAt w v ps) (hb : Below w.heap.size w w') : PsAt w' v ps := by
  induction h with
  | mk p c ps us h1 h2 h3 _ ih => exact .mk p c ps us h1 h2 (fun k q u hq hu => (h3 k q u hq hu).below hb) ih
theorem PsAt.nil (w : World) (c : Nat) : PsAt w (.slice none 0 c) [] :=
  .mk none c [] [] rfl (by simp) (fun _ _ _ h => by simp at h) (fun _ _ _ h => by simp at h)
theorem PsAt.is {w : World} {v : Value} {ps : List Pt} (h : PsAt w v ps) : ∃ p c, v = .slice p ps.length c ∧ ps.length ≤ maxLen ∧
    ∀ k q, ps[k]? = some q → ∃ u, SpotAt w p k 5 (pcells q u) ∧ PsAt w u q.word := by
  cases h with
  | mk p c ps us h1 h2 h3 h4 =>
    refine ⟨p, c, rfl, h2, fun k q hq => ?_⟩
    have hk : k < us.length := by rw [h1]; exact (List.getElem?_eq_some_iff.1 hq).1
    exact ⟨us[k], h3 k q _ hq (List.getElem?_eq_getElem hk), h4 k q _ hq (List.getElem?_eq_getElem hk)⟩

/-- A word that was handed over. -/
def wordV (u : Value) : Value := .agg #[u]

/-- A row of values that are something. -/
structure SlAt (w : World) (size : Nat) (α : Type) (P : α → List Value → Prop) (v : Value) (l : List α) : Prop where
  is : ∃ p c, v = .slice p l.length c ∧ ∀ k x, l[k]? = some x → ∃ cs, SpotAt w p k size cs ∧ P x cs
  few : l.length ≤ maxLen
theorem SlAt.below {w w' : World} {size : Nat} {α : Type} {P Q : α → List Value → Prop} {v : Value} {l : List α} (h : SlAt w size α P v l) (hb : Below w.heap.size w w') (hP : ∀ x cs, P x cs → Q x cs) : SlAt w' size α Q v l := by
  obtain ⟨⟨p, c, hv, hx⟩, hf⟩ := h
  refine ⟨⟨p, c, hv, fun k x hk => ?_⟩, hf⟩
  obtain ⟨cs, h1, h2⟩ := hx k x hk
  exact ⟨cs, h1.below hb, hP x cs h2⟩
theorem SlAt.nil (w : World) (size : Nat) {α : Type} (P : α → List Value → Prop) (c : Nat) : SlAt w size α P (.slice none 0 c) [] := ⟨⟨none, c, rfl, fun _ _ h => by simp at h⟩, by simp⟩

/-- A row of words. -/
def WsAt (w : World) (v : Value) (l : List (List Pt)) : Prop := SlAt w 1 (List Pt) (fun x cs => ∃ u, cs = [u] ∧ PsAt w u x) v l
/-- A row of rows of words. -/
def PatsAt (w : World) (v : Value) (l : List (List (List Pt))) : Prop := SlAt w 1 (List (List Pt)) (fun x cs => ∃ u, cs = [u] ∧ WsAt w u x) v l
/-- A row of texts with words. -/
def AsAt (w : World) (v : Value) (l : List (List UInt8 × List Pt)) : Prop := SlAt w 2 (List UInt8 × List Pt) (fun x cs => ∃ u, cs = [txt x.1, u] ∧ PsAt w u x.2) v l
/-- A row of numbers. -/
def KidsAt (w : World) (v : Value) (l : List Int) : Prop := SlAt w 1 Int (fun x cs => cs = [.int .i64 x]) v l
theorem WsAt.below {w w' : World} {v : Value} {l : List (List Pt)} (h : WsAt w v l) (hb : Below w.heap.size w w') : WsAt w' v l := SlAt.below h hb fun _ _ ⟨u, e, hu⟩ => ⟨u, e, hu.stays hb⟩
theorem PatsAt.below {w w' : World} {v : Value} {l : List (List (List Pt))} (h : PatsAt w v l) (hb : Below w.heap.size w w') : PatsAt w' v l := SlAt.below h hb fun _ _ ⟨u, e, hu⟩ => ⟨u, e, hu.below hb⟩
theorem AsAt.below {w w' : World} {v : Value} {l : List (List UInt8 × List Pt)} (h : AsAt w v l) (hb : Below w.heap.size w w') : AsAt w' v l := SlAt.below h hb fun _ _ ⟨u, e, hu⟩ => ⟨u, e, hu.stays hb⟩
theorem KidsAt.below {w w' : World} {v : Value} {l : List Int} (h : KidsAt w v l) (hb : Below w.heap.size w w') : KidsAt w' v l := SlAt.below h hb fun _ _ e => e

/-- A node, by its cells. -/
structure NdAt (w : World) (n : Nd) (cs : List Value) : Prop where
  is : ∃ kv wv pv av rv, cs = [txt n.op, txt n.name, kv, wv, pv, av, rv] ∧ KidsAt w kv n.kids ∧ WsAt w wv n.words ∧ PatsAt w pv n.pats ∧ AsAt w av n.assigns ∧ AsAt w rv n.redirs
theorem NdAt.below {w w' : World} {n : Nd} {cs : List Value} (h : NdAt w n cs) (hb : Below w.heap.size w w') : NdAt w' n cs := by
  obtain ⟨kv, wv, pv, av, rv, e, h1, h2, h3, h4, h5⟩ := h.is
  exact ⟨kv, wv, pv, av, rv, e, h1.below hb, h2.below hb, h3.below hb, h4.below hb, h5.below hb⟩
/-- A row of nodes. -/
def NsAt (w : World) (v : Value) (l : List Nd) : Prop := SlAt w 7 Nd (fun n cs => NdAt w n cs) v l
theorem NsAt.below {w w' : World} {v : Value} {l : List Nd} (h : NsAt w v l) (hb : Below w.heap.size w w') : NsAt w' v l := SlAt.below h hb fun _ _ e => e.below hb

/-! ### How long texts are -/
/-- All texts are so long at most. -/
inductive Small : List Pt → Prop
  | mk (ps : List Pt) : (∀ q : Pt, q ∈ ps → q.text.length ≤ 1048576) → (∀ q : Pt, q ∈ ps → Small q.word) → Small ps
theorem Small.get {ps : List Pt} (h : Small ps) {q : Pt} (hq : q ∈ ps) : q.text.length ≤ 1048576 ∧ Small q.word := by
  cases h with
  | mk _ h k => exact ⟨h q hq, k q hq⟩
theorem Small.nil : Small [] := .mk [] (fun _ h => by cases h) fun _ h => by cases h
end Go.Proofs.YtakceggnadagmaaGreatDoor

namespace Go.Proofs.YtakceggnadagmaaGreatDoor.ParseMath
open Go Go.Lib GlyphMath LexMath TreeMath

def signsB : List (List UInt8) := [[38, 38], [124, 124], [59, 59], [62, 62], [59], [124], [40], [41], [62], [60], [10]]
/-- A token that is no end. -/
structure MidT (t : Tk) : Prop where
  at_ : t.at_ ≤ 2000
  is : (t.kind = 1 ∧ t.text = [] ∧ wordT t.word = true ∧ Small t.word ∧ t.word.length ≤ 4000) ∨ (t.kind = 2 ∧ t.word = [] ∧ signsB.contains t.text = true)
structure EndT (t : Tk) : Prop where
  kind : t.kind = 3
  text : t.text = []
  word : t.word = []
  at_ : t.at_ ≤ 2000
/-- Tokens, the end last of all. -/
inductive Row : List Tk → Prop
  | one (e : Tk) : EndT e → Row [e]
  | more (t : Tk) (r : List Tk) : MidT t → Row r → Row (t :: r)
structure GoodS (S : PS) : Prop where
  row : Row S.ts
  few : S.ts.length ≤ 2001
  at_ : S.at_ ≤ 2000
  err : S.err ≤ 3
theorem MidT.ne {t : Tk} (h : MidT t) : t.kind ≠ 3 := by rcases h.is with h | h <;> rw [h.1] <;> decide
theorem Row.ne {l : List Tk} (h : Row l) : l ≠ [] := by cases h <;> simp
theorem Row.suf {l : List Tk} (h : Row l) : ∀ {r : List Tk}, r <:+ l → r ≠ [] → Row r := by
  induction h with
  | one e he =>
    intro r hs hn
    rcases List.suffix_cons_iff.1 hs with rfl | h
    · exact .one e he
    · exact absurd (List.suffix_nil.1 h) hn
  | more t l ht hl ih =>
    intro r hs hn
    rcases List.suffix_cons_iff.1 hs with rfl | h
    · exact .more t l ht hl
    · exact ih h hn
theorem GoodS.hd {S : PS} (h : GoodS S) : (EndT S.hd ∧ S.ts = [S.hd]) ∨ (MidT S.hd ∧ Row S.ts.tail ∧ S.ts = S.hd :: S.ts.tail) := by
  obtain ⟨ts, a, e⟩ := S
  have h := h.row
  cases h with
  | one e he => exact .inl ⟨he, rfl⟩
  | more t l ht hl => exact .inr ⟨ht, hl, rfl⟩
theorem GoodS.at0 {S : PS} (h : GoodS S) : S.hd.at_ ≤ 2000 := by
  rcases h.hd with ⟨h, -⟩ | ⟨h, -⟩ <;> exact h.at_
theorem GoodS.pos {S : PS} (h : GoodS S) : 0 < S.ts.length := List.length_pos_iff.2 h.row.ne

/-- What is left is the last of what was. -/
structure To (S S' : PS) : Prop where
  good : GoodS S'
  suf : S'.ts <:+ S.ts
theorem To.refl {S : PS} (h : GoodS S) : To S S := ⟨h, List.suffix_refl _⟩
theorem To.trans {a b c : PS} (h : To a b) (k : To b c) : To a c := ⟨k.good, k.suf.trans h.suf⟩
theorem To.len {S S' : PS} (h : To S S') : S'.ts.length ≤ S.ts.length := h.suf.length_le
theorem to_take {S : PS} (h : GoodS S) : To S S.take := by
  unfold PS.take
  split
  · exact To.refl h
  · rename_i hk
    rcases h.hd with ⟨h1, -⟩ | ⟨-, h1, -⟩
    · exact absurd h1.kind hk
    · exact ⟨⟨h1, by have := h.few; simp; omega, h.at_, h.err⟩, List.tail_suffix _⟩
theorem take_lt {S : PS} (h : GoodS S) (hk : S.hd.kind ≠ 3) : S.take.ts.length < S.ts.length := by
  unfold PS.take
  rw [if_neg hk]
  have := h.pos
  simp; omega
theorem to_fail {S : PS} (h : GoodS S) {e : Nat} (he : e ≤ 3) : To S (S.fail e) := by
  have hp := h.pos
  have hs : S.ts.drop (S.ts.length - 1) <:+ S.ts := List.drop_suffix _ _
  have hn : S.ts.drop (S.ts.length - 1) ≠ [] := by
    apply List.length_pos_iff.1
    simp; omega
  refine ⟨⟨h.row.suf hs hn, ?_, ?_, ?_⟩, hs⟩
  · simp [PS.fail]; omega
  · show (if S.err = 0 then S.hd.at_ else S.at_) ≤ 2000
    split
    · exact h.at0
    · exact h.at_
  · show (if S.err = 0 then e else S.err) ≤ 3
    split
    · exact he
    · exact h.err
theorem fail_one {S : PS} (h : GoodS S) (e : Nat) : (S.fail e).ts.length = 1 := by
  have hp := h.pos
  simp [PS.fail]; omega
theorem to_want {S : PS} (h : GoodS S) (b : Bool) : To S (S.want b) := by
  unfold PS.want
  split
  · exact To.refl h
  · exact to_fail h (by decide)
theorem to_takes {S : PS} (h : GoodS S) (s : List UInt8) : To S (S.takes s).2 := by
  unfold PS.takes
  split
  · exact to_take h
  · exact To.refl h
theorem to_need {S : PS} (h : GoodS S) (s : List UInt8) : To S (S.need s) := by
  unfold PS.need
  split
  · exact to_take h
  · exact to_fail h (by decide)
theorem to_word {S : PS} (h : GoodS S) : To S S.word.2 := (to_want h _).trans (to_take (to_want h _).good)
theorem to_name {S : PS} (h : GoodS S) : To S S.name.2 := (to_want h _).trans (to_take (to_want h _).good)
theorem GoodS.tx3 {S : PS} (h : GoodS S) (hk : S.hd.kind = 3) : S.tx = [] := by
  rcases h.hd with ⟨h1, -⟩ | ⟨h1, -⟩
  · unfold PS.tx textK
    rw [if_neg (by rw [hk]; decide), h1.text]
  · exact absurd hk h1.ne
theorem is_ne {S : PS} (h : GoodS S) {s : List UInt8} (hs : s ≠ []) (hi : S.is s = true) : S.hd.kind ≠ 3 := by
  intro hk
  unfold PS.is at hi
  rw [h.tx3 hk] at hi
  exact hs (by simpa using hi.symm)
theorem to_linesL : ∀ (f : Nat) {S : PS}, GoodS S → To S (linesL f S)
  | 0, _, h => To.refl h
  | f + 1, S, h => by
    unfold linesL
    split
    · exact (to_take h).trans (to_linesL f (to_take h).good)
    · exact To.refl h
theorem to_lines {S : PS} (h : GoodS S) : To S S.lines := to_linesL _ h
theorem to_sep {S : PS} (h : GoodS S) : To S S.sep.2 := by
  unfold PS.sep
  split
  · exact (to_take h).trans (to_lines (to_take h).good)
  · exact To.refl h
theorem sep_lt {S : PS} (h : GoodS S) (hs : S.sep.1 = true) : S.sep.2.ts.length < S.ts.length := by
  unfold PS.sep at hs ⊢
  split at hs
  · rename_i hk
    rw [if_pos hk]
    have hn : S.hd.kind ≠ 3 := by
      rcases Bool.or_eq_true_iff.1 hk with hk | hk
      · exact is_ne h (by decide) hk
      · exact is_ne h (by decide) hk
    exact Nat.lt_of_le_of_lt (to_lines (to_take h).good).len (take_lt h hn)
  · cases hs
theorem redir_ne {S : PS} (h : GoodS S) (hr : S.isRedir = true) : S.hd.kind ≠ 3 := by
  unfold PS.isRedir at hr
  rcases Bool.or_eq_true_iff.1 hr with hr | hr
  · exact is_ne h (by decide) hr
  · rcases Bool.or_eq_true_iff.1 hr with hr | hr
    · exact is_ne h (by decide) hr
    · exact is_ne h (by decide) hr
theorem isWord_ne {S : PS} (hr : S.isWord = true) : S.hd.kind ≠ 3 := by
  have : S.hd.kind = 1 := by simpa [PS.isWord] using hr
  rw [this]; decide
theorem to_redir {S : PS} (h : GoodS S) : To S (redirM S).2 := (to_take h).trans (to_word (to_take h).good)
theorem redir_lt {S : PS} (h : GoodS S) (hr : S.isRedir = true) : (redirM S).2.ts.length < S.ts.length := Nat.lt_of_le_of_lt (to_word (to_take h).good).len (take_lt h (redir_ne h hr))
theorem word_lt {S : PS} (h : GoodS S) (hr : S.isWord = true) : S.word.2.ts.length < S.ts.length := by
  unfold PS.word PS.want
  rw [hr]
  exact take_lt h (isWord_ne hr)
theorem two_of {S : PS} (h : GoodS S) (hk : S.hd.kind ≠ 3) : 2 ≤ S.ts.length := by
  rcases h.hd with ⟨h1, -⟩ | ⟨-, h1, h2⟩
  · exact absurd h1.kind hk
  · have := List.length_pos_iff.2 h1.ne
    simp at this; omega
theorem to_part {S : PS} (h : GoodS S) (n : Nd) : To S (partM n S).2 := by
  unfold partM
  split
  · split
    · exact to_take h
    · split
      · exact to_fail h (by decide)
      · exact to_word h
  · exact to_word h
theorem part_lt {S : PS} (h : GoodS S) (n : Nd) (hr : S.isWord = true) : (partM n S).2.ts.length < S.ts.length := by
  unfold partM
  split
  · split
    · exact take_lt h (isWord_ne hr)
    · split
      · have := two_of h (isWord_ne hr)
        rw [fail_one h]; omega
      · exact word_lt h hr
  · exact word_lt h hr
theorem to_simpleL : ∀ (f : Nat) (n : Nd) {S : PS}, GoodS S → To S (simpleL f n S).2
  | 0, _, _, h => To.refl h
  | f + 1, n, S, h => by
    unfold simpleL
    split
    · exact (to_redir h).trans (to_simpleL f _ (to_redir h).good)
    · split
      · exact (to_part h n).trans (to_simpleL f _ (to_part h n).good)
      · exact To.refl h
theorem to_simple {S : PS} (h : GoodS S) : To S (simpleM S).2 := (to_want h _).trans (to_simpleL _ _ (to_want h _).good)

def DoOk (cmd : Do) : Prop := ∀ S, GoodS S → To S (cmd S).2
section
variable {cmd : Do} (hc : DoOk cmd)
include hc
theorem to_pipeL : ∀ (f : Nat) (l : List Tr) {S : PS}, GoodS S → To S (pipeL cmd f l S).2
  | 0, _, _, h => To.refl h
  | f + 1, l, S, h => by
    unfold pipeL
    split
    · have h1 := (to_take h).trans (to_lines (to_take h).good)
      have h2 := h1.trans (hc _ h1.good)
      exact h2.trans (to_pipeL f _ h2.good)
    · exact To.refl h
theorem pipe_lt {S : PS} (h : GoodS S) {s : List UInt8} (hs : s ≠ []) (hi : S.is s = true) : (cmd S.take.lines).2.ts.length < S.ts.length := by
  have h1 := to_take h
  have h2 := to_lines h1.good
  have := (hc _ h2.good).len
  have := h2.len
  have := take_lt h (is_ne h hs hi)
  omega
theorem to_pipe : DoOk (pipeM cmd) := fun S h => by
  unfold pipeM
  have h1 := to_takes h [33]
  have h2 := h1.trans (hc _ h1.good)
  exact h2.trans (to_pipeL hc _ _ h2.good)
theorem to_andorL : ∀ (f : Nat) (n : Tr) {S : PS}, GoodS S → To S (andorL cmd f n S).2
  | 0, _, _, h => To.refl h
  | f + 1, n, S, h => by
    have h1 := (to_take h).trans (to_lines (to_take h).good)
    have h2 := h1.trans (to_pipe hc _ h1.good)
    unfold andorL
    split
    · exact h2.trans (to_andorL f _ h2.good)
    · split
      · exact h2.trans (to_andorL f _ h2.good)
      · exact To.refl h
theorem to_andor : DoOk (andorM cmd) := fun S h => (to_pipe hc S h).trans (to_andorL hc _ _ (to_pipe hc S h).good)
theorem to_listL : ∀ (f : Nat) (l : List Tr) {S : PS}, GoodS S → To S (listL cmd f l S).2
  | 0, _, _, h => To.refl h
  | f + 1, l, S, h => by
    have h2 := (to_sep h).trans (to_andor hc _ (to_sep h).good)
    unfold listL
    split
    · exact h2.trans (to_listL f _ h2.good)
    · exact to_sep h
theorem to_list : DoOk (listM cmd) := fun S h => by
  unfold listM
  have h1 := (to_lines h).trans (to_andor hc _ (to_lines h).good)
  exact h1.trans (to_listL hc _ _ h1.good)
theorem to_enclosed (op cl : List UInt8) : DoOk (enclosedM cmd op cl) := fun S h => by
  have h1 := (to_take h).trans (to_list hc _ (to_take h).good)
  exact h1.trans (to_need h1.good _)
theorem to_body : DoOk (bodyM cmd) := fun S h => by
  have h1 := (to_need h [100, 111]).trans (to_list hc _ (to_need h _).good)
  exact h1.trans (to_need h1.good _)
theorem to_loop (op : List UInt8) : DoOk (loopM cmd op) := fun S h => by
  have h1 := (to_take h).trans (to_list hc _ (to_take h).good)
  exact h1.trans (to_body hc _ h1.good)
theorem to_branch {br : Do} (hb : DoOk br) : DoOk (branchM cmd br) := fun S h => by
  have h1 := (to_take h).trans (to_list hc _ (to_take h).good)
  have h2 := h1.trans (to_need h1.good [116, 104, 101, 110])
  have h3 := h2.trans (to_list hc _ h2.good)
  have h4 := h3.trans (hb _ h3.good)
  have h5 := h3.trans (to_take h3.good)
  have h6 := h5.trans (to_list hc _ h5.good)
  unfold branchM
  dsimp only
  split
  · exact h4
  · split
    · exact h6.trans (to_need h6.good _)
    · exact h3.trans (to_need h3.good _)
omit hc in
theorem to_wordsL : ∀ (f : Nat) (l : List (List Pt)) {S : PS}, GoodS S → To S (wordsL f l S).2
  | 0, _, _, h => To.refl h
  | f + 1, l, S, h => by
    unfold wordsL
    split
    · exact (to_word h).trans (to_wordsL f _ (to_word h).good)
    · exact To.refl h
theorem to_each : DoOk (eachM cmd) := fun S h => by
  have h1 := (to_take h).trans (to_name (to_take h).good)
  have h2 := h1.trans (to_need h1.good [105, 110])
  have h3 := h2.trans (to_wordsL ((S.take.name.2.need [105, 110]).ts.length) [] h2.good)
  have h4 := h3.trans (to_sep h3.good)
  exact h4.trans (to_body hc _ h4.good)
omit hc in
theorem to_patsL : ∀ (f : Nat) (l : List (List Pt)) {S : PS}, GoodS S → To S (patsL f l S).2
  | 0, _, _, h => To.refl h
  | f + 1, l, S, h => by
    have h2 := (to_take h).trans (to_word (to_take h).good)
    unfold patsL
    split
    · exact h2.trans (to_patsL f _ h2.good)
    · exact To.refl h
omit hc in
theorem to_pats {S : PS} (h : GoodS S) : To S (patsM S).2 := by
  have h1 := (to_takes h [40]).trans (to_word (to_takes h [40]).good)
  have h2 := h1.trans (to_patsL ((S.takes [40]).2.word.2.ts.length) [(S.takes [40]).2.word.1] h1.good)
  exact h2.trans (to_need h2.good _)
omit hc in
theorem word_le {S : PS} (h : GoodS S) (hk : S.hd.kind ≠ 3) : S.word.2.ts.length < S.ts.length := by
  cases hw : S.isWord with
  | true => exact word_lt h hw
  | false =>
    have h2 := two_of h hk
    have h3 := (to_take (to_fail h (e := 2) (by decide)).good).len
    unfold PS.word PS.want
    rw [hw]
    have := fail_one h 2
    simp only [Bool.false_eq_true, if_false]
    omega
omit hc in
theorem pats_lt {S : PS} (h : GoodS S) (hk : S.hd.kind ≠ 3) : (patsM S).2.ts.length < S.ts.length := by
  have h1 := to_takes h [40]
  have h2 := to_word h1.good
  have h3 := to_patsL ((S.takes [40]).2.word.2.ts.length) [(S.takes [40]).2.word.1] h2.good
  have h4 := to_need h3.good [41]
  have l3 := h3.len
  have l4 := h4.len
  have l2 : (S.takes [40]).2.word.2.ts.length < S.ts.length := by
    unfold PS.takes
    split
    · rename_i hi
      exact Nat.lt_of_le_of_lt (to_word (to_take h).good).len (take_lt h hk)
    · exact word_le h hk
  have : (patsM S).2.ts.length ≤ (S.takes [40]).2.word.2.ts.length := Nat.le_trans l4 l3
  omega
theorem to_choiceR {S : PS} (h : GoodS S) : To S ((listM cmd (patsM S).2).2.need [59, 59]).lines := by
  have h1 := (to_pats h).trans (to_list hc _ (to_pats h).good)
  have h2 := h1.trans (to_need h1.good [59, 59])
  exact h2.trans (to_lines h2.good)
theorem choice_lt {S : PS} (h : GoodS S) (hk : S.hd.kind ≠ 3) : ((listM cmd (patsM S).2).2.need [59, 59]).lines.ts.length < S.ts.length := by
  have h1 := to_pats h
  have h2 := to_list hc _ h1.good
  have h3 := to_need h2.good [59, 59]
  have l2 := h2.len
  have l3 := h3.len
  have l4 := (to_lines h3.good).len
  have := pats_lt h hk
  omega
theorem to_choiceL : ∀ (f : Nat) (ps : List (List (List Pt))) (l : List Tr) {S : PS}, GoodS S → To S (choiceL cmd f ps l S).st
  | 0, _, _, _, h => To.refl h
  | f + 1, ps, l, S, h => by
    unfold choiceL
    split
    · exact To.refl h
    · exact (to_choiceR hc h).trans (to_choiceL f _ _ (to_choiceR hc h).good)
theorem to_choice : DoOk (choiceM cmd) := fun S h => by
  have h1 := (to_take h).trans (to_word (to_take h).good)
  have h2 := h1.trans (to_need h1.good [105, 110])
  have h3 := h2.trans (to_lines h2.good)
  have h4 := h3.trans (to_choiceL hc ((S.take.word.2.need [105, 110]).lines.ts.length) [] [] h3.good)
  exact h4.trans (to_need h4.good _)
theorem to_compound {br : Do} (hb : DoOk br) {S : PS} (h : GoodS S) {r : Tr × PS} (hr : compoundM cmd br S = some r) : To S r.2 := by
  unfold compoundM at hr
  repeat' split at hr
  all_goals cases hr
  · exact to_enclosed hc _ _ _ h
  · exact to_enclosed hc _ _ _ h
  · exact to_branch hc hb _ h
  · exact to_loop hc _ _ h
  · exact to_loop hc _ _ h
  · exact to_each hc _ h
  · exact to_choice hc _ h
omit hc in
theorem to_redirsL : ∀ (f : Nat) (n : Nd) {S : PS}, GoodS S → To S (redirsL f n S).2
  | 0, _, _, h => To.refl h
  | f + 1, n, S, h => by
    unfold redirsL
    split
    · exact (to_redir h).trans (to_redirsL f _ (to_redir h).good)
    · exact To.refl h
omit hc in
theorem to_fun {held : Do} (hh : DoOk held) : DoOk (funM held) := fun S h => by
  have h1 := to_name h
  have h2 := h1.trans (to_need h1.good [40])
  have h3 := h2.trans (to_need h2.good [41])
  have h4 := h3.trans (to_lines h3.good)
  exact h4.trans (hh _ h4.good)
theorem to_command {br held : Do} (hb : DoOk br) (hh : DoOk held) : DoOk (commandM cmd br held) := fun S h => by
  unfold commandM
  split
  · exact to_fun hh _ h
  · split
    · rename_i r hr
      have h1 := to_compound hc hb h hr
      exact h1.trans (to_redirsL _ _ h1.good)
    · exact to_simple h
theorem to_held : DoOk (heldM cmd) := fun S h => by
  unfold heldM
  split
  · exact to_enclosed hc _ _ _ h
  · split
    · exact to_enclosed hc _ _ _ h
    · exact to_fail h (by decide)
end
theorem to_lv : ∀ k, DoOk (lv k).cmd ∧ DoOk (lv k).br ∧ DoOk (lv k).held
  | 0 => ⟨fun S h => (to_fail h (by decide)).trans (to_simple (to_fail h (by decide)).good), fun S h => To.refl h, fun S h => to_fail h (by decide)⟩
  | k + 1 => by
    obtain ⟨h1, h2, h3⟩ := to_lv k
    exact ⟨to_command h1 h2 h3, to_branch h1 h2, to_held h1⟩

/-! ### Behind an error -/
/-- Only the end is left. -/
def Dead (S : PS) : Prop := S.ts.length = 1
theorem To.dead {S S' : PS} (h : To S S') (hd : Dead S) : Dead S' := by
  have := h.len
  have := h.good.pos
  unfold Dead at *
  omega
theorem Dead.kind {S : PS} (h : GoodS S) (hd : Dead S) : S.hd.kind = 3 := by
  apply Classical.byContradiction
  intro hk
  have := two_of h hk
  unfold Dead at hd
  omega
theorem Dead.is {S : PS} (h : GoodS S) (hd : Dead S) {s : List UInt8} (hs : s ≠ []) : S.is s = false := by
  cases hi : S.is s with
  | false => rfl
  | true => exact absurd (Dead.kind h hd) (is_ne h hs hi)
theorem cmd0_dead {S : PS} (h : GoodS S) : Dead ((lv 0).cmd S).2 := (to_simple (to_fail h (by decide)).good).dead (fail_one h 3)
theorem list_dead {cmd : Do} (hc : DoOk cmd) (hd : ∀ S, GoodS S → Dead (cmd S).2) {S : PS} (h : GoodS S) : Dead (listM cmd S).2 := by
  have h0 := to_lines h
  have h1 := to_takes h0.good [33]
  have h2 := hc _ h1.good
  have h3 := (to_pipeL hc ((cmd (S.lines.takes [33]).2).2.ts.length) [(cmd (S.lines.takes [33]).2).1] h2.good)
  have d3 : Dead (pipeM cmd S.lines).2 := h3.dead (hd _ h1.good)
  have h4 := to_pipe hc _ h0.good
  have h5 := to_andorL hc ((pipeM cmd S.lines).2.ts.length) (pipeM cmd S.lines).1 h4.good
  have d4 : Dead (andorM cmd S.lines).2 := h5.dead d3
  have h6 := to_andor hc _ h0.good
  exact (to_listL hc ((andorM cmd S.lines).2.ts.length) [(andorM cmd S.lines).1] h6.good).dead d4
theorem list0_dead {S : PS} (h : GoodS S) : Dead (listM (lv 0).cmd S).2 := list_dead (to_lv 0).1 (fun _ h => cmd0_dead h) h
end Go.Proofs.YtakceggnadagmaaGreatDoor.ParseMath
