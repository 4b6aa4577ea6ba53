/-
  Proved: how a simple command that is being taken lies in memory. Conditions: as each says.
-/
import Derived.Test.YtakceggnadagmaaGreatDoorParseAssignW
namespace Go.Proofs.YtakceggnadagmaaGreatDoor
open Go Go.RowKit GlyphMath LexMath TreeMath ParseMath

/-- Where the rows of a simple command lie. -/
structure Sv where
  pw : Option Addr
  cw : Nat
  cssw : List (List Value)
  Fw : Nat → Prop
  pa : Option Addr
  ca : Nat
  cssa : List (List Value)
  Fa : Nat → Prop
  pr : Option Addr
  cr : Nat
  cssr : List (List Value)
  Fr : Nat → Prop
def Sv.vw (V : Sv) (n : Nat) : Value := .slice V.pw n V.cw
def Sv.va (V : Sv) (n : Nat) : Value := .slice V.pa n V.ca
def Sv.vr (V : Sv) (n : Nat) : Value := .slice V.pr n V.cr
def siC (V : Sv) (n : Nd) : List Value := ndC ⟨#[99, 109, 100]⟩ ⟨#[]⟩ (.slice V.pw n.words.length V.cw) (.slice none 0 0) (.slice V.pa n.assigns.length V.ca) (.slice V.pr n.redirs.length V.cr)
/-- The blocks of a row. -/
def Bl (F : Nat → Prop) (v : Value) (k : Nat) : Prop := F k ∨ v.ownBlock = some k
/-- A simple command in a variable. -/
structure SiO (w0 w wr : World) (X Y : Nat) (n : Nd) (V : Sv) (M : Nat) (S : PS) : Prop where
  max : M ≤ 5000
  box : BxO w0 w wr X Y (siC V n).toArray 44 S
  node : n.op = [99, 109, 100] ∧ n.name = [] ∧ n.kids = [] ∧ n.pats = []
  roww : WRow w0 wr (Y + 1) (.slice V.pw n.words.length V.cw) V.cssw n.words V.Fw
  rowa : RowG w0 wr 105 2 PairP (Y + 1) (.slice V.pa n.assigns.length V.ca) V.cssa n.assigns V.Fa
  rowr : RowG w0 wr 103 2 PairP (Y + 1) (.slice V.pr n.redirs.length V.cr) V.cssr n.redirs V.Fr
  apwa : ∀ k, (V.Fa k ∨ (Value.slice V.pa n.assigns.length V.ca).ownBlock = some k) → (Value.slice V.pw n.words.length V.cw).ownBlock ≠ some k
  apwr : ∀ k, (V.Fr k ∨ (Value.slice V.pr n.redirs.length V.cr).ownBlock = some k) → (Value.slice V.pw n.words.length V.cw).ownBlock ≠ some k
  apaw : ∀ k, (V.Fw k ∨ (Value.slice V.pw n.words.length V.cw).ownBlock = some k) → (Value.slice V.pa n.assigns.length V.ca).ownBlock ≠ some k
  apar : ∀ k, (V.Fr k ∨ (Value.slice V.pr n.redirs.length V.cr).ownBlock = some k) → (Value.slice V.pa n.assigns.length V.ca).ownBlock ≠ some k
  aprw : ∀ k, (V.Fw k ∨ (Value.slice V.pw n.words.length V.cw).ownBlock = some k) → (Value.slice V.pr n.redirs.length V.cr).ownBlock ≠ some k
  apra : ∀ k, (V.Fa k ∨ (Value.slice V.pa n.assigns.length V.ca).ownBlock = some k) → (Value.slice V.pr n.redirs.length V.cr).ownBlock ≠ some k
  feww : n.words.length + S.ts.length ≤ M
  fewa : n.assigns.length + S.ts.length ≤ M
  fewr : n.redirs.length + S.ts.length ≤ M
section
variable {w0 w wr w1 : World} {X Y : Nat} {n : Nd} {V : Sv} {M M' : Nat} {S S' : PS}
theorem SiO.step (h : SiO w0 w wr X Y n V M S) (hX : X < w.heap.size) (hs : PStep w0 wr w1 X S') (hM : M' ≤ 5000) (hl : S'.ts.length + M ≤ S.ts.length + M') : SiO w0 w w1 X Y n V M' S' := by
  have hb := h.box.base
  exact { h with
    max := hM
    box := h.box.step hX hs
    roww := h.roww.kept hs.2 (fun k hk => by have := (h.roww.lt k hk).1; omega)
    rowa := h.rowa.kept hs.2 (fun k hk => by have := (h.rowa.lt k hk).1; omega)
    rowr := h.rowr.kept hs.2 (fun k hk => by have := (h.rowr.lt k hk).1; omega)
    feww := by have := h.feww; omega
    fewa := by have := h.fewa; omega
    fewr := by have := h.fewr; omega }
theorem SiO.new (h : SiO w0 w wr X Y n V M S) (hX : X < w.heap.size) (hb : Below wr.heap.size wr w1) : SiO w0 w w1 X Y n V M S := h.step hX ⟨h.box.pr.new hb, Kept.of_below hb⟩ h.max (Nat.le_refl _)
theorem SiO.pushw {C : Nat} {p' : Option Addr} {c' : Nat} {cs : List Value} {y : List Pt} {F' : Nat → Prop} (h : SiO w0 w wr X Y n V M S) (hM : M + 1 ≤ 5000) (hX : X < w.heap.size) (hX0 : w0.heap.size ≤ X)
    (hCa : ∀ k, (Value.slice V.pa n.assigns.length V.ca).ownBlock = some k → k < C)
    (hCr : ∀ k, (Value.slice V.pr n.redirs.length V.cr).ownBlock = some k → k < C)
    (hr : WRow w0 w1 (Y + 1) (.slice p' (n.words.length + 1) c') (V.cssw ++ [cs]) (n.words ++ [y]) F') (hF : ∀ k, F' k → V.Fw k ∨ (C ≤ k ∧ k < wr.heap.size)) (hat : (Value.slice p' (n.words.length + 1) c').ownBlock = (Value.slice V.pw n.words.length V.cw).ownBlock ∨ ∀ k, (Value.slice p' (n.words.length + 1) c').ownBlock = some k → wr.heap.size ≤ k)
    (hk : Kept (fun k => (Value.slice V.pw n.words.length V.cw).ownBlock = some k) wr w1) :
    SiO w0 w (w1.setCell ⟨Y, 3, none⟩ (.slice p' (n.words.length + 1) c')) X Y { n with words := n.words ++ [y] } { V with pw := p', cw := c', cssw := V.cssw ++ [cs], Fw := F' } (M + 1) S := by
  have hb := h.box.base
  have hn : (n.words ++ [y]).length = n.words.length + 1 := by rw [List.length_append]; rfl
  have hown : ∀ k, (Value.slice V.pw n.words.length V.cw).ownBlock = some k → Y < k := fun k hk => (h.roww.lt k (.inr hk)).1
  have hk2 : Kept (fun k => k = Y) w1 (w1.setCell ⟨Y, 3, none⟩ (.slice p' (n.words.length + 1) c')) := (Kept.refl (fun k => k = Y) w1).setCell (p := ⟨Y, 3, none⟩) (.inl rfl) _
  refine { max := hM, box := ?_, node := h.node, roww := ?_, rowa := ?_, rowr := ?_, apwa := ?_, apwr := ?_, apaw := ?_, apar := ?_, aprw := ?_, apra := ?_, feww := ?_, fewa := ?_, fewr := ?_ }
  · have := (h.box.turn hX hX0 hk (fun k hk => hown k hk)).set hX hX0 3 (.slice p' (n.words.length + 1) c')
    simp only [siC, hn]
    exact this
  · simp only [hn]
    exact hr.kept hk2 fun k hk' => by have := (hr.lt k hk').1; omega
  · exact (h.rowa.kept hk fun k hk' => h.apwa k hk').kept hk2 fun k hk' => by have := (h.rowa.lt k hk').1; omega
  · exact (h.rowr.kept hk fun k hk' => h.apwr k hk').kept hk2 fun k hk' => by have := (h.rowr.lt k hk').1; omega
  · simp only [hn]
    exact ap_push h.apwa (fun k hk' => (h.rowa.lt k hk').2) hat
  · simp only [hn]
    exact ap_push h.apwr (fun k hk' => (h.rowr.lt k hk').2) hat
  · simp only [hn]
    exact ap_pushed h.apaw hF (fun k hk' => ⟨hCa k hk', (h.rowa.lt k (.inr hk')).2⟩) hat
  · exact h.apar
  · simp only [hn]
    exact ap_pushed h.aprw hF (fun k hk' => ⟨hCr k hk', (h.rowr.lt k (.inr hk')).2⟩) hat
  · exact h.apra
  · simp only [hn]; have := h.feww; omega
  · exact Nat.le_succ_of_le h.fewa
  · exact Nat.le_succ_of_le h.fewr
theorem SiO.pusha {C : Nat} {p' : Option Addr} {c' : Nat} {cs : List Value} {y : List UInt8 × List Pt} {F' : Nat → Prop} (h : SiO w0 w wr X Y n V M S) (hM : M + 1 ≤ 5000) (hX : X < w.heap.size) (hX0 : w0.heap.size ≤ X)
    (hCw : ∀ k, (Value.slice V.pw n.words.length V.cw).ownBlock = some k → k < C)
    (hCr : ∀ k, (Value.slice V.pr n.redirs.length V.cr).ownBlock = some k → k < C)
    (hr : RowG w0 w1 105 2 PairP (Y + 1) (.slice p' (n.assigns.length + 1) c') (V.cssa ++ [cs]) (n.assigns ++ [y]) F') (hF : ∀ k, F' k → V.Fa k ∨ (C ≤ k ∧ k < wr.heap.size)) (hat : (Value.slice p' (n.assigns.length + 1) c').ownBlock = (Value.slice V.pa n.assigns.length V.ca).ownBlock ∨ ∀ k, (Value.slice p' (n.assigns.length + 1) c').ownBlock = some k → wr.heap.size ≤ k)
    (hk : Kept (fun k => (Value.slice V.pa n.assigns.length V.ca).ownBlock = some k) wr w1) :
    SiO w0 w (w1.setCell ⟨Y, 5, none⟩ (.slice p' (n.assigns.length + 1) c')) X Y { n with assigns := n.assigns ++ [y] } { V with pa := p', ca := c', cssa := V.cssa ++ [cs], Fa := F' } (M + 1) S := by
  have hb := h.box.base
  have hn : (n.assigns ++ [y]).length = n.assigns.length + 1 := by rw [List.length_append]; rfl
  have hown : ∀ k, (Value.slice V.pa n.assigns.length V.ca).ownBlock = some k → Y < k := fun k hk => (h.rowa.lt k (.inr hk)).1
  have hk2 : Kept (fun k => k = Y) w1 (w1.setCell ⟨Y, 5, none⟩ (.slice p' (n.assigns.length + 1) c')) := (Kept.refl (fun k => k = Y) w1).setCell (p := ⟨Y, 5, none⟩) (.inl rfl) _
  refine { max := hM, box := ?_, node := h.node, roww := ?_, rowa := ?_, rowr := ?_, apwa := ?_, apwr := ?_, apaw := ?_, apar := ?_, aprw := ?_, apra := ?_, feww := ?_, fewa := ?_, fewr := ?_ }
  · have := (h.box.turn hX hX0 hk (fun k hk => hown k hk)).set hX hX0 5 (.slice p' (n.assigns.length + 1) c')
    simp only [siC, hn]
    exact this
  · exact (h.roww.kept hk fun k hk' => h.apaw k hk').kept hk2 fun k hk' => by have := (h.roww.lt k hk').1; omega
  · simp only [hn]
    exact hr.kept hk2 fun k hk' => by have := (hr.lt k hk').1; omega
  · exact (h.rowr.kept hk fun k hk' => h.apar k hk').kept hk2 fun k hk' => by have := (h.rowr.lt k hk').1; omega
  · simp only [hn]
    exact ap_pushed h.apwa hF (fun k hk' => ⟨hCw k hk', (h.roww.lt k (.inr hk')).2⟩) hat
  · exact h.apwr
  · simp only [hn]
    exact ap_push h.apaw (fun k hk' => (h.roww.lt k hk').2) hat
  · simp only [hn]
    exact ap_push h.apar (fun k hk' => (h.rowr.lt k hk').2) hat
  · exact h.aprw
  · simp only [hn]
    exact ap_pushed h.apra hF (fun k hk' => ⟨hCr k hk', (h.rowr.lt k (.inr hk')).2⟩) hat
  · exact Nat.le_succ_of_le h.feww
  · simp only [hn]; have := h.fewa; omega
  · exact Nat.le_succ_of_le h.fewr
theorem SiO.pushr {C : Nat} {p' : Option Addr} {c' : Nat} {cs : List Value} {y : List UInt8 × List Pt} {F' : Nat → Prop} (h : SiO w0 w wr X Y n V M S) (hM : M + 1 ≤ 5000) (hX : X < w.heap.size) (hX0 : w0.heap.size ≤ X)
    (hCw : ∀ k, (Value.slice V.pw n.words.length V.cw).ownBlock = some k → k < C)
    (hCa : ∀ k, (Value.slice V.pa n.assigns.length V.ca).ownBlock = some k → k < C)
    (hr : RowG w0 w1 103 2 PairP (Y + 1) (.slice p' (n.redirs.length + 1) c') (V.cssr ++ [cs]) (n.redirs ++ [y]) F') (hF : ∀ k, F' k → V.Fr k ∨ (C ≤ k ∧ k < wr.heap.size)) (hat : (Value.slice p' (n.redirs.length + 1) c').ownBlock = (Value.slice V.pr n.redirs.length V.cr).ownBlock ∨ ∀ k, (Value.slice p' (n.redirs.length + 1) c').ownBlock = some k → wr.heap.size ≤ k)
    (hk : Kept (fun k => (Value.slice V.pr n.redirs.length V.cr).ownBlock = some k) wr w1) :
    SiO w0 w (w1.setCell ⟨Y, 6, none⟩ (.slice p' (n.redirs.length + 1) c')) X Y { n with redirs := n.redirs ++ [y] } { V with pr := p', cr := c', cssr := V.cssr ++ [cs], Fr := F' } (M + 1) S := by
  have hb := h.box.base
  have hn : (n.redirs ++ [y]).length = n.redirs.length + 1 := by rw [List.length_append]; rfl
  have hown : ∀ k, (Value.slice V.pr n.redirs.length V.cr).ownBlock = some k → Y < k := fun k hk => (h.rowr.lt k (.inr hk)).1
  have hk2 : Kept (fun k => k = Y) w1 (w1.setCell ⟨Y, 6, none⟩ (.slice p' (n.redirs.length + 1) c')) := (Kept.refl (fun k => k = Y) w1).setCell (p := ⟨Y, 6, none⟩) (.inl rfl) _
  refine { max := hM, box := ?_, node := h.node, roww := ?_, rowa := ?_, rowr := ?_, apwa := ?_, apwr := ?_, apaw := ?_, apar := ?_, aprw := ?_, apra := ?_, feww := ?_, fewa := ?_, fewr := ?_ }
  · have := (h.box.turn hX hX0 hk (fun k hk => hown k hk)).set hX hX0 6 (.slice p' (n.redirs.length + 1) c')
    simp only [siC, hn]
    exact this
  · exact (h.roww.kept hk fun k hk' => h.aprw k hk').kept hk2 fun k hk' => by have := (h.roww.lt k hk').1; omega
  · exact (h.rowa.kept hk fun k hk' => h.apra k hk').kept hk2 fun k hk' => by have := (h.rowa.lt k hk').1; omega
  · simp only [hn]
    exact hr.kept hk2 fun k hk' => by have := (hr.lt k hk').1; omega
  · exact h.apwa
  · simp only [hn]
    exact ap_pushed h.apwr hF (fun k hk' => ⟨hCw k hk', (h.roww.lt k (.inr hk')).2⟩) hat
  · exact h.apaw
  · simp only [hn]
    exact ap_pushed h.apar hF (fun k hk' => ⟨hCa k hk', (h.rowa.lt k (.inr hk')).2⟩) hat
  · simp only [hn]
    exact ap_push h.aprw (fun k hk' => (h.roww.lt k hk').2) hat
  · simp only [hn]
    exact ap_push h.apra (fun k hk' => (h.rowa.lt k hk').2) hat
  · exact Nat.le_succ_of_le h.feww
  · exact Nat.le_succ_of_le h.fewa
  · simp only [hn]; have := h.fewr; omega
end
theorem SiO.node_tree {w0 w wr : World} {X Y : Nat} {n : Nd} {V : Sv} {M : Nat} {S : PS} (h : SiO w0 w wr X Y n V M S) : NewAt w0 wr (w.heap.size + 1) fun W => TrC W (siC V n ++ [.slice none 0 0]) (.mk n []) := by
  have hb := h.box.base
  have h1 := (h.roww.sl (by have := h.feww; have := h.max; unfold maxLen; omega)).base (C := w.heap.size + 1) (by omega)
  have h2 := (h.rowa.sl (by have := h.fewa; have := h.max; unfold maxLen; omega)).base (C := w.heap.size + 1) (by omega)
  have h3 := (h.rowr.sl (by have := h.fewr; have := h.max; unfold maxLen; omega)).base (C := w.heap.size + 1) (by omega)
  refine ((h1.and h2).and h3).imp fun W hW => ?_
  have hn := h.node
  have hc : NdC W n (siC V n) := ⟨hn.2.2.1, _, _, _, _, by rw [hn.1, hn.2.1]; rfl, hW.1.1, by rw [hn.2.2.2]; exact SlAt.nil _ _ _ _, hW.1.2, hW.2⟩
  exact .mk n [] (siC V n) none 0 [] hc rfl (by simp) (fun _ _ h => by simp at h) (fun _ _ _ h => by simp at h)
end Go.Proofs.YtakceggnadagmaaGreatDoor
