/-
  Proved: how a word's parts, words, nodes lie in memory, for whoever only reads them, and that they stay. Conditions: as each says.
-/
import Derived.Test.YtloaalapkmbgeaaDoorLexMem0
import Derived.Test.YtloaalapkmbgeaaDoorTreeMath
import Derived.Below
namespace Go.Proofs.YtloaalapkmbgeaaDoor
open Go Go.RowKit GlyphMath LexMath TreeMath

/-- The k-th of a row, by its cells. -/
def SpotAt (w : World) (p : Option Addr) (k size : Nat) (cs : List Value) : Prop := ∃ b o, p = some ⟨b, o, none⟩ ∧ ∀ i u, cs[i]? = some u → w.cell? ⟨b, o + k * size + i, none⟩ = some u
theorem SpotAt.below {w w' : World} {p : Option Addr} {k size : Nat} {cs : List Value} (h : SpotAt w p k size cs) (hb : Below w.heap.size w w') : SpotAt w' p k size cs := by
  obtain ⟨b, o, hp, hc⟩ := h
  refine ⟨b, o, hp, fun i u hu => ?_⟩
  have := hc i u hu
  rw [hb.cell (p := ⟨b, _, none⟩) (World.block_lt_of_cell? w _ this)]
  exact this

/-- A value that is a row of parts. -/
inductive PsAt (w : World) : Value → List Pt → Prop
  | mk (p : Option Addr) (c : Nat) (ps : List Pt) (us : List Value) : us.length = ps.length → ps.length ≤ maxLen →
      (∀ k q u, ps[k]? = some q → us[k]? = some u → SpotAt w p k 5 (pcells q u)) → (∀ (k : Nat) (q : Pt) (u : Value), ps[k]? = some q → us[k]? = some u → PsAt w u q.word) → PsAt w (.slice p ps.length c) ps
theorem PsAt.stays {w w' : World} {v : Value} {ps : List Pt} (h : PsAt w v ps) (hb : Below w.heap.size w w') : PsAt w' v ps := by
  induction h with
  | mk p c ps us h1 h2 h3 _ ih => exact .mk p c ps us h1 h2 (fun k q u hq hu => (h3 k q u hq hu).below hb) ih
theorem PsAt.nil (w : World) (c : Nat) : PsAt w (.slice none 0 c) [] :=
  .mk none c [] [] rfl (by simp) (fun _ _ _ h => by simp at h) (fun _ _ _ h => by simp at h)
theorem PsAt.is {w : World} {v : Value} {ps : List Pt} (h : PsAt w v ps) : ∃ p c, v = .slice p ps.length c ∧ ps.length ≤ maxLen ∧
    ∀ k q, ps[k]? = some q → ∃ u, SpotAt w p k 5 (pcells q u) ∧ PsAt w u q.word := by
  cases h with
  | mk p c ps us h1 h2 h3 h4 =>
    refine ⟨p, c, rfl, h2, fun k q hq => ?_⟩
    have hk : k < us.length := by rw [h1]; exact (List.getElem?_eq_some_iff.1 hq).1
    exact ⟨us[k], h3 k q _ hq (List.getElem?_eq_getElem hk), h4 k q _ hq (List.getElem?_eq_getElem hk)⟩

/-- A word that was handed over. -/
def wordV (u : Value) : Value := .agg #[u]

/-- A row of values that are something. -/
structure SlAt (w : World) (size : Nat) (α : Type) (P : α → List Value → Prop) (v : Value) (l : List α) : Prop where
  is : ∃ p c, v = .slice p l.length c ∧ ∀ k x, l[k]? = some x → ∃ cs, SpotAt w p k size cs ∧ P x cs
  few : l.length ≤ maxLen
theorem SlAt.below {w w' : World} {size : Nat} {α : Type} {P Q : α → List Value → Prop} {v : Value} {l : List α} (h : SlAt w size α P v l) (hb : Below w.heap.size w w') (hP : ∀ x cs, P x cs → Q x cs) : SlAt w' size α Q v l := by
  obtain ⟨⟨p, c, hv, hx⟩, hf⟩ := h
  refine ⟨⟨p, c, hv, fun k x hk => ?_⟩, hf⟩
  obtain ⟨cs, h1, h2⟩ := hx k x hk
  exact ⟨cs, h1.below hb, hP x cs h2⟩
theorem SlAt.nil (w : World) (size : Nat) {α : Type} (P : α → List Value → Prop) (c : Nat) : SlAt w size α P (.slice none 0 c) [] := ⟨⟨none, c, rfl, fun _ _ h => by simp at h⟩, by simp⟩

/-- A row of words. -/
def WsAt (w : World) (v : Value) (l : List (List Pt)) : Prop := SlAt w 1 (List Pt) (fun x cs => ∃ u, cs = [u] ∧ PsAt w u x) v l
/-- A row of rows of words. -/
def PatsAt (w : World) (v : Value) (l : List (List (List Pt))) : Prop := SlAt w 1 (List (List Pt)) (fun x cs => ∃ u, cs = [u] ∧ WsAt w u x) v l
/-- A row of texts with words. -/
def AsAt (w : World) (v : Value) (l : List (List UInt8 × List Pt)) : Prop := SlAt w 2 (List UInt8 × List Pt) (fun x cs => ∃ u, cs = [txt x.1, u] ∧ PsAt w u x.2) v l
/-- A row of numbers. -/
def KidsAt (w : World) (v : Value) (l : List Int) : Prop := SlAt w 1 Int (fun x cs => cs = [.int .i64 x]) v l
theorem WsAt.below {w w' : World} {v : Value} {l : List (List Pt)} (h : WsAt w v l) (hb : Below w.heap.size w w') : WsAt w' v l := SlAt.below h hb fun _ _ ⟨u, e, hu⟩ => ⟨u, e, hu.stays hb⟩
theorem PatsAt.below {w w' : World} {v : Value} {l : List (List (List Pt))} (h : PatsAt w v l) (hb : Below w.heap.size w w') : PatsAt w' v l := SlAt.below h hb fun _ _ ⟨u, e, hu⟩ => ⟨u, e, hu.below hb⟩
theorem AsAt.below {w w' : World} {v : Value} {l : List (List UInt8 × List Pt)} (h : AsAt w v l) (hb : Below w.heap.size w w') : AsAt w' v l := SlAt.below h hb fun _ _ ⟨u, e, hu⟩ => ⟨u, e, hu.stays hb⟩
theorem KidsAt.below {w w' : World} {v : Value} {l : List Int} (h : KidsAt w v l) (hb : Below w.heap.size w w') : KidsAt w' v l := SlAt.below h hb fun _ _ e => e

/-- A node, by its cells. -/
structure NdAt (w : World) (n : Nd) (cs : List Value) : Prop where
  is : ∃ kv wv pv av rv, cs = [txt n.op, txt n.name, kv, wv, pv, av, rv] ∧ KidsAt w kv n.kids ∧ WsAt w wv n.words ∧ PatsAt w pv n.pats ∧ AsAt w av n.assigns ∧ AsAt w rv n.redirs
theorem NdAt.below {w w' : World} {n : Nd} {cs : List Value} (h : NdAt w n cs) (hb : Below w.heap.size w w') : NdAt w' n cs := by
  obtain ⟨kv, wv, pv, av, rv, e, h1, h2, h3, h4, h5⟩ := h.is
  exact ⟨kv, wv, pv, av, rv, e, h1.below hb, h2.below hb, h3.below hb, h4.below hb, h5.below hb⟩
/-- A row of nodes. -/
def NsAt (w : World) (v : Value) (l : List Nd) : Prop := SlAt w 7 Nd (fun n cs => NdAt w n cs) v l
theorem NsAt.below {w w' : World} {v : Value} {l : List Nd} (h : NsAt w v l) (hb : Below w.heap.size w w') : NsAt w' v l := SlAt.below h hb fun _ _ e => e.below hb

/-! ### How long texts are -/
/-- All texts are so long at most. -/
inductive Small : List Pt → Prop
  | mk (ps : List Pt) : (∀ q : Pt, q ∈ ps → q.text.length ≤ 1048576) → (∀ q : Pt, q ∈ ps → Small q.word) → Small ps
theorem Small.get {ps : List Pt} (h : Small ps) {q : Pt} (hq : q ∈ ps) : q.text.length ≤ 1048576 ∧ Small q.word := by
  cases h with
  | mk _ h k => exact ⟨h q hq, k q hq⟩
theorem Small.nil : Small [] := .mk [] (fun _ h => by cases h) fun _ h => by cases h
end Go.Proofs.YtloaalapkmbgeaaDoor
