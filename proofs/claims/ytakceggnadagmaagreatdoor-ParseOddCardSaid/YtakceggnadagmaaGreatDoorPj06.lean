/-
  Proved: texts joined: Proved: how a parser's tokens, rows and trees lie in memory, and what keeps them there. Conditions: as each says.
  Proved: contracts of a parser's next, take, fail. Conditions: the reader lies in memory.
-/
import Derived.Test.YtakceggnadagmaaGreatDoorPj02
import Derived.Test.YtakceggnadagmaaGreatDoorPj05
import Derived.Great.BuildSlice
import Derived.Deep.WholeRow
import Derived.Deep.RegionLaw
namespace Go.Proofs.YtakceggnadagmaaGreatDoor
open Go Go.RowKit GlyphMath LexMath TreeMath ParseMath

/-! ### What stays -/
/-- It holds as long as the blocks of F are as they are, whatever else turns that was not there at the outset. -/
def Stays (w0 w : World) (F : Nat → Prop) (P : World → Prop) : Prop := ∀ w', Below w0.heap.size w0 w' → (∀ k, F k → w'.heap[k]? = w.heap[k]?) → P w'
theorem Stays.now {w0 w : World} {F : Nat → Prop} {P : World → Prop} (h : Stays w0 w F P) (hb : Below w0.heap.size w0 w) : P w := h w hb fun _ _ => rfl
theorem Stays.same {w0 w w' : World} {F : Nat → Prop} {P : World → Prop} (h : Stays w0 w F P) (hk : ∀ k, F k → w'.heap[k]? = w.heap[k]?) : Stays w0 w' F P := fun x hx hf => h x hx fun k hF => (hf k hF).trans (hk k hF)
theorem Stays.mono {w0 w : World} {F F' : Nat → Prop} {P : World → Prop} (h : Stays w0 w F P) (hF : ∀ k, F k → F' k) : Stays w0 w F' P := fun x hx hf => h x hx fun k hk => hf k (hF k hk)
theorem Stays.imp {w0 w : World} {F : Nat → Prop} {P Q : World → Prop} (h : Stays w0 w F P) (hP : ∀ w', P w' → Q w') : Stays w0 w F Q := fun x hx hf => hP x (h x hx hf)
theorem Stays.of0 {w0 w : World} {P : World → Prop} (h : ∀ w', Below w0.heap.size w0 w' → P w') : Stays w0 w (fun _ => False) P := fun x hx _ => h x hx
/-- It lies in blocks from B on, and stays. -/
def NewAt (w0 w : World) (B : Nat) (P : World → Prop) : Prop := ∃ F, (∀ k, F k → B ≤ k ∧ k < w.heap.size) ∧ Stays w0 w F P
theorem NewAt.kept {D : Nat → Prop} {w0 w w' : World} {B : Nat} {P : World → Prop} (h : NewAt w0 w B P) (hk : Kept D w w') (hD : ∀ k, B ≤ k → k < w.heap.size → ¬ D k) : NewAt w0 w' B P := by
  obtain ⟨F, h1, h2⟩ := h
  exact ⟨F, fun k hF => ⟨(h1 k hF).1, Nat.lt_of_lt_of_le (h1 k hF).2 hk.size⟩, h2.same fun k hF => hk.block k (h1 k hF).2 (hD k (h1 k hF).1 (h1 k hF).2)⟩
theorem NewAt.base {w0 w : World} {B C : Nat} {P : World → Prop} (h : NewAt w0 w B P) (hC : C ≤ B) : NewAt w0 w C P := by
  obtain ⟨F, h1, h2⟩ := h
  exact ⟨F, fun k hF => ⟨Nat.le_trans hC (h1 k hF).1, (h1 k hF).2⟩, h2⟩
theorem NewAt.imp {w0 w : World} {B : Nat} {P Q : World → Prop} (h : NewAt w0 w B P) (hP : ∀ w', P w' → Q w') : NewAt w0 w B Q := by
  obtain ⟨F, h1, h2⟩ := h
  exact ⟨F, h1, h2.imp hP⟩
theorem NewAt.now {w0 w : World} {B : Nat} {P : World → Prop} (h : NewAt w0 w B P) (hb : Below w0.heap.size w0 w) : P w := by
  obtain ⟨F, h1, h2⟩ := h
  exact h2.now hb
theorem NewAt.of0 {w0 w : World} {B : Nat} {P : World → Prop} (h : ∀ w', Below w0.heap.size w0 w' → P w') : NewAt w0 w B P := ⟨fun _ => False, fun _ h => h.elim, Stays.of0 h⟩
theorem NewAt.and {w0 w : World} {B : Nat} {P Q : World → Prop} (h : NewAt w0 w B P) (k : NewAt w0 w B Q) : NewAt w0 w B fun W => P W ∧ Q W := by
  obtain ⟨F, h1, h2⟩ := h
  obtain ⟨G, k1, k2⟩ := k
  exact ⟨fun x => F x ∨ G x, fun x hx => hx.elim (h1 x) (k1 x), fun x hx hf => ⟨h2 x hx fun i hi => hf i (.inl hi), k2 x hx fun i hi => hf i (.inr hi)⟩⟩

/-! ### Rows that are made -/
/-- So many cells, each a value of one. -/
def Cel (n : Nat) (c : List Value) : Prop := c.length = n ∧ ∀ v ∈ c, v.oneCell' = true
structure RowG (w0 w : World) (e sz : Nat) {α : Type} (P : World → List Value → α → Prop) (B : Nat) (v : Value) (css : List (List Value)) (l : List α) (F : Nat → Prop) : Prop where
  own : w.ownsRow B e sz v l.length css.flatten
  len : css.length = l.length
  each : ∀ cs ∈ css, Cel sz cs
  sub : ∀ (k : Nat) (cs : List Value) (x : α), css[k]? = some cs → l[k]? = some x → Stays w0 w F fun W => P W cs x
  far : ∀ k, F k → B ≤ k ∧ k < w.heap.size ∧ v.ownBlock ≠ some k
section
variable {w0 w : World} {e sz : Nat} {α : Type} {P : World → List Value → α → Prop} {B : Nat} {v : Value} {css : List (List Value)} {l : List α} {F : Nat → Prop}
theorem RowG.nil (w0 w : World) (e sz : Nat) {α : Type} (P : World → List Value → α → Prop) (B : Nat) : RowG w0 w e sz P B (.slice none 0 0) [] ([] : List α) (fun _ => False) :=
  ⟨World.ownsRow_nil _ _ _ _, rfl, fun _ h => (List.not_mem_nil h).elim, fun _ _ _ h => (by simp at h), fun _ h => h.elim⟩
theorem RowG.lt (h : RowG w0 w e sz P B v css l F) : ∀ k, F k ∨ v.ownBlock = some k → B ≤ k ∧ k < w.heap.size := fun k hk => hk.elim (fun hk => ⟨(h.far k hk).1, (h.far k hk).2.1⟩) fun hk => World.ownsRow.lt h.own k hk
theorem RowG.kept {D : Nat → Prop} {w' : World} (h : RowG w0 w e sz P B v css l F) (hk : Kept D w w') (hD : ∀ k, F k ∨ v.ownBlock = some k → ¬ D k) : RowG w0 w' e sz P B v css l F where
  own := ownsRow_same h.own fun g hg => hk.block g (World.ownsRow.lt h.own g hg).2 (hD g (.inr hg))
  len := h.len
  each := h.each
  sub := fun k cs x h1 h2 => (h.sub k cs x h1 h2).same fun i hi => hk.block i (h.far i hi).2.1 (hD i (.inl hi))
  far := fun k hF => ⟨(h.far k hF).1, Nat.lt_of_lt_of_le (h.far k hF).2.1 hk.size, (h.far k hF).2.2⟩
theorem RowG.shape (h : RowG w0 w e sz P B v css l F) : ∃ a c, v = .slice a l.length c := by
  rcases h.own.2 with ⟨hv, h0⟩ | ⟨g, cap, cur, hv, _⟩
  · exact ⟨none, 0, by rw [hv, h0]⟩
  · exact ⟨_, _, hv⟩
theorem flat_len {css : List (List Value)} {sz : Nat} (h : ∀ cs ∈ css, Cel sz cs) : css.flatten.length = css.length * sz := by
  induction css with
  | nil => simp
  | cons a r ih =>
    rw [List.flatten_cons, List.length_append, (h a (by simp)).1, ih fun cs hc => h cs (by simp [hc]), List.length_cons, Nat.succ_mul]
    omega
theorem flat_get {css : List (List Value)} {sz : Nat} (h : ∀ cs ∈ css, Cel sz cs) : ∀ (k : Nat) (cs : List Value), css[k]? = some cs → ∀ i, i < sz → css.flatten[k * sz + i]? = cs[i]? := by
  induction css with
  | nil => intro k cs hk; simp at hk
  | cons a r ih =>
    intro k cs hk i hi
    have ha := (h a (by simp)).1
    cases k with
    | zero =>
      simp only [List.getElem?_cons_zero, Option.some.injEq] at hk
      subst hk
      rw [List.flatten_cons, Nat.zero_mul, Nat.zero_add, List.getElem?_append_left (by omega)]
    | succ k =>
      rw [List.flatten_cons, show (k + 1) * sz + i = a.length + (k * sz + i) by rw [ha, Nat.succ_mul]; omega, List.getElem?_append_right (by omega), Nat.add_sub_cancel_left]
      exact ih (fun cs hc => h cs (by simp [hc])) k cs (by simpa using hk) i hi
/-- The cells of one of a row. -/
theorem RowG.spot (h : RowG w0 w e sz P B v css l F) {k : Nat} {cs : List Value} (hk : css[k]? = some cs) : ∃ g c, v = .slice (some ⟨g, 0, none⟩) l.length c ∧ ∀ i u, cs[i]? = some u → w.cell? ⟨g, k * sz + i, none⟩ = some u := by
  obtain ⟨hk1, hk2⟩ := List.getElem?_eq_some_iff.1 hk
  rcases h.own.2 with ⟨_, h0⟩ | ⟨g, cap, cur, hv, _⟩
  · have := h.len; omega
  · refine ⟨g, cap, hv, fun i u hu => ?_⟩
    subst hv
    have hc := h.each cs (List.mem_of_getElem? hk)
    have hi : i < sz := by have := (List.getElem?_eq_some_iff.1 hu).1; rw [hc.1] at this; exact this
    rw [World.ownsRow.cellAt h.own _ (by have := h.len; have := Nat.mul_le_mul_right sz (show k + 1 ≤ l.length by omega); rw [Nat.succ_mul] at this; omega), flat_get h.each k cs hk i hi]
    exact hu
/-- The row as whoever reads it has it. -/
theorem RowG.slat (h : RowG w0 w e sz P B v css l F) : Stays w0 w (fun k => F k ∨ v.ownBlock = some k) fun W => (∃ p c, v = .slice p l.length c ∧ ∀ (k : Nat) (cs : List Value), css[k]? = some cs → SpotAt W p k sz cs) ∧ ∀ (k : Nat) (cs : List Value) (x : α), css[k]? = some cs → l[k]? = some x → P W cs x := by
  intro W hW hf
  have h' : RowG w0 W e sz P B v css l F := { h with
    own := ownsRow_same h.own fun g hg => hf g (.inr hg)
    sub := fun k cs x h1 h2 => (h.sub k cs x h1 h2).same fun i hi => hf i (.inl hi)
    far := fun k hF => ⟨(h.far k hF).1, by
      have h1 := hf k (.inl hF)
      have h2 := (h.far k hF).2.1
      rw [Array.getElem?_eq_getElem h2] at h1
      exact (Array.getElem?_eq_some_iff.1 h1).1, (h.far k hF).2.2⟩ }
  refine ⟨?_, fun k cs x h1 h2 => (h'.sub k cs x h1 h2).now hW⟩
  obtain ⟨p, c, hv⟩ := h.shape
  refine ⟨p, c, hv, fun k cs hk => ?_⟩
  obtain ⟨g, c', hv', hc⟩ := h'.spot hk
  rw [hv] at hv'
  simp only [Value.slice.injEq, true_and] at hv'
  exact ⟨g, 0, hv'.1, fun i u hu => by rw [Nat.zero_add]; exact hc i u hu⟩
theorem RowG.sl (h : RowG w0 w e sz P B v css l F) (hm : l.length ≤ maxLen) : NewAt w0 w B fun W => SlAt W sz α (fun x cs => P W cs x) v l := by
  refine ⟨fun k => F k ∨ v.ownBlock = some k, h.lt, h.slat.imp fun W hW => ?_⟩
  obtain ⟨⟨p, c, hv, h1⟩, h2⟩ := hW
  refine ⟨⟨p, c, hv, fun k x hk => ?_⟩, hm⟩
  obtain ⟨cs, hcs⟩ : ∃ cs, css[k]? = some cs := ⟨_, List.getElem?_eq_getElem (by rw [h.len]; exact (List.getElem?_eq_some_iff.1 hk).1)⟩
  exact ⟨cs, h1 k cs hcs, h2 k cs x hcs hk⟩
theorem RowG.nofar (h : RowG w0 w e sz P B v css l F) (hF : ∀ k, F k → False) : RowG w0 w e sz P B v css l (fun _ => False) :=
  { own := h.own, len := h.len, each := h.each, sub := fun k cs x h1 h2 => (h.sub k cs x h1 h2).mono fun i hi => hF i hi, far := fun k hk => hk.elim }
/-- One more. -/
theorem RowG.add (h : RowG w0 w e sz P B v css l F) {C : Nat} {cs : List Value} {x : α} (hc : Cel sz cs) (hx : NewAt w0 w C fun W => P W cs x) (hB : B ≤ C) (hv : ∀ k, v.ownBlock = some k → k < C)
    {w1 w2 : World} (hk : Kept (fun _ => False) w w1) {g cap : Nat} (hown : w2.ownsRow B e sz (.slice (some ⟨g, 0, none⟩) (l.length + 1) cap) (l.length + 1) (css.flatten ++ cs)) (hgrow : w1.grownBy w2 v.ownBlock) (hat : v.ownBlock = some g ∨ w.heap.size ≤ g) :
    ∃ F', RowG w0 w2 e sz P B (.slice (some ⟨g, 0, none⟩) (l.length + 1) cap) (css ++ [cs]) (l ++ [x]) F' ∧ (∀ k, F' k → F k ∨ (C ≤ k ∧ k < w.heap.size)) := by
  obtain ⟨F2, f1, f2⟩ := hx
  have hold : ∀ j, j < w.heap.size → v.ownBlock ≠ some j → w2.heap[j]? = w.heap[j]? := fun j hj hn => (hgrow.block j (Nat.lt_of_lt_of_le hj hk.size) (fun e => hn e.symm)).trans (hk.block j hj (fun h => h))
  have hs : w.heap.size ≤ w2.heap.size := Nat.le_trans hk.size hgrow.size
  have hne : ∀ j, (B ≤ j ∧ j < w.heap.size ∧ v.ownBlock ≠ some j) → B ≤ j ∧ j < w2.heap.size ∧ (Value.slice (some ⟨g, 0, none⟩) (l.length + 1) cap).ownBlock ≠ some j := fun j ⟨a1, a2, a3⟩ => ⟨a1, by omega, fun e => by
    have e' : g = j := by simpa [Value.ownBlock] using e
    rcases hat with e2 | e2
    · exact a3 (by rw [e2, e'])
    · omega⟩
  have hF2 : ∀ j, F2 j → B ≤ j ∧ j < w.heap.size ∧ v.ownBlock ≠ some j := fun j hj => ⟨Nat.le_trans hB (f1 j hj).1, (f1 j hj).2, fun e => by have := hv j e; have := (f1 j hj).1; omega⟩
  refine ⟨fun k => F k ∨ F2 k, ⟨?_, ?_, ?_, ?_, ?_⟩, fun k hk => hk.imp id fun hk => f1 k hk⟩
  · rw [List.length_append, List.flatten_append]
    simpa using hown
  · simp [h.len]
  · intro c hcm
    rcases List.mem_append.1 hcm with h1 | h1
    · exact h.each c h1
    · obtain rfl : c = cs := by simpa using h1
      exact hc
  · intro k c y h1 h2
    rcases Nat.lt_or_ge k l.length with hl | hl
    · rw [List.getElem?_append_left (by rw [h.len]; exact hl)] at h1
      rw [List.getElem?_append_left hl] at h2
      exact ((h.sub k c y h1 h2).same fun i hi => hold i (h.far i hi).2.1 (h.far i hi).2.2).mono fun _ hi => .inl hi
    · rw [List.getElem?_append_right (by rw [h.len]; exact hl)] at h1
      rw [List.getElem?_append_right hl] at h2
      obtain ⟨i1, i2⟩ := List.getElem?_eq_some_iff.1 h1
      obtain ⟨j1, j2⟩ := List.getElem?_eq_some_iff.1 h2
      simp only [List.length_singleton] at i1 j1
      simp only [List.getElem_singleton] at i2 j2
      subst i2 j2
      exact (f2.same fun i hi => hold i (hF2 i hi).2.1 (hF2 i hi).2.2).mono fun _ hi => .inr hi
  · exact fun k hk => hne k (hk.elim (fun hk => h.far k hk) fun hk => hF2 k hk)
/-- A row of one that was just made. -/
theorem RowG.one {C : Nat} {cs : List Value} {x : α} (hc : Cel sz cs) (hx : NewAt w0 w C fun W => P W cs x) (hB : B ≤ C) (hw : B ≤ w.heap.size) :
    ∃ F', RowG w0 (w.alloc (.cells cs.toArray e)) e sz P B (.slice (some ⟨w.heap.size, 0, none⟩) 1 1) [cs] [x] F' ∧ (∀ k, F' k → C ≤ k ∧ k < w.heap.size) := by
  obtain ⟨F2, f1, f2⟩ := hx
  refine ⟨F2, ⟨?_, rfl, ?_, ?_, ?_⟩, f1⟩
  · have := World.ownsRow_lit (base := B) (e := e) (size := sz) w cs.toArray 1 hw (by decide) (by simp [hc.1])
    simpa using this
  · intro c hcm
    obtain rfl : c = cs := by simpa using hcm
    exact hc
  · intro k c y h1 h2
    obtain ⟨i1, i2⟩ := List.getElem?_eq_some_iff.1 h1
    obtain ⟨j1, j2⟩ := List.getElem?_eq_some_iff.1 h2
    simp only [List.length_singleton] at i1 j1
    simp only [List.getElem_singleton] at i2 j2
    subst i2 j2
    exact f2.same fun i hi => Below.heap_alloc _ _ _ (f1 i hi).2
  · refine fun k hk => ⟨Nat.le_trans hB (f1 k hk).1, ?_, fun e => ?_⟩
    · have := (f1 k hk).2; rw [World.size_alloc]; omega
    · have e' : w.heap.size = k := by simpa [Value.ownBlock] using e
      have := (f1 k hk).2
      omega
/-- A row of two that was just made. -/
theorem RowG.two {cs ds : List Value} {x y : α} {F2 F3 : Nat → Prop} (hc : Cel sz cs) (hd : Cel sz ds) (f2 : Stays w0 w F2 fun W => P W cs x) (g2 : Stays w0 w F3 fun W => P W ds y) (hb : ∀ k, F2 k ∨ F3 k → B ≤ k ∧ k < w.heap.size) (hw : B ≤ w.heap.size) :
    RowG w0 (w.alloc (.cells (cs ++ ds).toArray e)) e sz P B (.slice (some ⟨w.heap.size, 0, none⟩) 2 2) [cs, ds] [x, y] (fun k => F2 k ∨ F3 k) := by
  refine ⟨?_, rfl, ?_, ?_, ?_⟩
  · have := World.ownsRow_lit (base := B) (e := e) (size := sz) w (cs ++ ds).toArray 2 hw (by decide) (by simp [hc.1, hd.1]; omega)
    simpa using this
  · intro c hcm
    simp only [List.mem_cons, List.not_mem_nil, or_false] at hcm
    rcases hcm with rfl | rfl
    · exact hc
    · exact hd
  · intro k c z h1 h2
    match k, h1, h2 with
    | 0, h1, h2 =>
      simp only [List.getElem?_cons_zero, Option.some.injEq] at h1 h2
      subst h1 h2
      exact (f2.same fun i hi => Below.heap_alloc _ _ _ (hb i (.inl hi)).2).mono fun _ h => .inl h
    | 1, h1, h2 =>
      simp only [List.getElem?_cons_succ, List.getElem?_cons_zero, Option.some.injEq] at h1 h2
      subst h1 h2
      exact (g2.same fun i hi => Below.heap_alloc _ _ _ (hb i (.inr hi)).2).mono fun _ h => .inr h
    | k + 2, h1, h2 => simp at h1
  · refine fun k hk => ⟨(hb k hk).1, ?_, fun e => ?_⟩
    · have := (hb k hk).2; rw [World.size_alloc]; omega
    · have e' : w.heap.size = k := by simpa [Value.ownBlock] using e
      have := (hb k hk).2
      omega
end

/-! ### Trees -/
/-- A node that has no kids yet, by its cells. -/
def NdC (w : World) (n : Nd) (cs : List Value) : Prop := n.kids = [] ∧ ∃ wv pv av rv, cs = [txt n.op, txt n.name, .slice none 0 0, wv, pv, av, rv] ∧ WsAt w wv n.words ∧ PatsAt w pv n.pats ∧ AsAt w av n.assigns ∧ AsAt w rv n.redirs
/-- A tree, by its cells. -/
inductive TrC (w : World) : List Value → Tr → Prop
  | mk (n : Nd) (kids : List Tr) (cs : List Value) (kp : Option Addr) (kc : Nat) (css : List (List Value)) : NdC w n cs → css.length = kids.length → kids.length ≤ maxLen →
      (∀ (k : Nat) (c : List Value), css[k]? = some c → SpotAt w kp k 8 c) → (∀ (k : Nat) (c : List Value) (t : Tr), css[k]? = some c → kids[k]? = some t → TrC w c t) → TrC w (cs ++ [.slice kp kids.length kc]) (.mk n kids)
/-- Kids that were made. -/
abbrev Kids (w0 w : World) (B : Nat) (v : Value) (css : List (List Value)) (l : List Tr) (F : Nat → Prop) : Prop := RowG w0 w 56 8 TrC B v css l F
theorem Kids.stays {w0 w : World} {B : Nat} {v : Value} {css : List (List Value)} {l : List Tr} {F F2 : Nat → Prop} (h : Kids w0 w B v css l F) (hm : l.length ≤ maxLen) {n : Nd} {cs : List Value} (f2 : Stays w0 w F2 fun W => NdC W n cs) : Stays w0 w (fun k => F2 k ∨ (F k ∨ v.ownBlock = some k)) fun W => TrC W (cs ++ [v]) (.mk n l) := by
  intro W hW hf
  obtain ⟨⟨p, c, hv, h1⟩, h2⟩ := h.slat W hW fun k hk => hf k (.inr hk)
  have h3 := f2 W hW fun k hk => hf k (.inl hk)
  subst hv
  exact .mk n l cs p c css h3 h.len hm h1 h2
theorem Kids.tree {w0 w : World} {B : Nat} {v : Value} {css : List (List Value)} {l : List Tr} {F : Nat → Prop} (h : Kids w0 w B v css l F) (hm : l.length ≤ maxLen) {n : Nd} {cs : List Value} (hn : NewAt w0 w B fun W => NdC W n cs) : NewAt w0 w B fun W => TrC W (cs ++ [v]) (.mk n l) := by
  obtain ⟨F2, f1, f2⟩ := hn
  exact ⟨fun k => F2 k ∨ (F k ∨ v.ownBlock = some k), fun k hk => hk.elim (f1 k) (h.lt k), h.stays hm f2⟩

/-! ### Tokens, and a reader of them -/
/-- A row's room. -/
def CapOk (v : Value) : Prop := ∃ p n c, v = .slice p n c ∧ n ≤ c
def ToksAt (w : World) (G o : Nat) (ts : List Tk) : Prop := ∀ (k : Nat) (t : Tk), ts[k]? = some t → ∃ u, PsAt w u t.word ∧ TokC w (some ⟨G, o, none⟩) k t.kind ⟨t.text.toArray⟩ u t.at_ ∧ CapOk u
theorem ToksAt.drop {w : World} {G o : Nat} {ts : List Tk} (h : ToksAt w G o ts) (n : Nat) : ToksAt w G (o + n * 4) (ts.drop n) := by
  intro k t ht
  rw [List.getElem?_drop] at ht
  obtain ⟨u, hu, ⟨b, o', he, h0, h1, h2, h3⟩, hcap⟩ := h (n + k) t ht
  simp only [Option.some.injEq, Addr.mk.injEq, and_true] at he
  obtain ⟨rfl, rfl⟩ := he
  have e : o + (n + k) * 4 = o + n * 4 + k * 4 := by omega
  rw [e] at h0 h1 h2 h3
  exact ⟨u, hu, ⟨G, o + n * 4, rfl, h0, h1, h2, h3⟩, hcap⟩
structure PrO (w0 w : World) (X : Nat) (S : PS) (G o c : Nat) : Prop where
  below : Below w0.heap.size w0 w
  base : w0.heap.size ≤ X
  head : w.heap[X]? = some (.cells #[.slice (some ⟨G, o, none⟩) S.ts.length c, .int .i64 (S.at_ : Int), .int .i64 (S.err : Int)] 53 (0, 0))
  cap : S.ts.length ≤ c
  toks : ToksAt w0 G o S.ts
  good : GoodS S
/-- A parser's reader lies in block X. -/
def Pr (w0 w : World) (X : Nat) (S : PS) : Prop := ∃ G o c, PrO w0 w X S G o c
theorem Pr.good {w0 w : World} {X : Nat} {S : PS} (h : Pr w0 w X S) : GoodS S := by
  obtain ⟨_, _, _, h⟩ := h
  exact h.good
theorem Pr.below {w0 w : World} {X : Nat} {S : PS} (h : Pr w0 w X S) : Below w0.heap.size w0 w := by
  obtain ⟨_, _, _, h⟩ := h
  exact h.below
theorem Pr.base {w0 w : World} {X : Nat} {S : PS} (h : Pr w0 w X S) : w0.heap.size ≤ X ∧ X < w.heap.size := by
  obtain ⟨_, _, _, h⟩ := h
  exact ⟨h.base, (Array.getElem?_eq_some_iff.1 h.head).1⟩
theorem Pr.kept {D : Nat → Prop} {w0 w w' : World} {X : Nat} {S : PS} (h : Pr w0 w X S) (hk : Kept D w w') (hX : ¬ D X) (hD : ∀ k, D k → w0.heap.size ≤ k) : Pr w0 w' X S := by
  obtain ⟨G, o, c, h⟩ := h
  exact ⟨G, o, c, below_kept h.below hk hD h.below.size, h.base, hk.heap h.head hX, h.cap, h.toks, h.good⟩
theorem Pr.new {w0 w w' : World} {X : Nat} {S : PS} (h : Pr w0 w X S) (hb : Below w.heap.size w w') : Pr w0 w' X S := h.kept (D := fun _ => False) (Kept.of_below hb) (fun h => h) fun _ h => h.elim
/-- A step of a parser's reader: nothing else has turned. -/
def PStep (w0 w w' : World) (X : Nat) (S : PS) : Prop := Pr w0 w' X S ∧ Kept (fun k => k = X) w w'
theorem PStep.refl {w0 w : World} {X : Nat} {S : PS} (h : Pr w0 w X S) : PStep w0 w w X S := ⟨h, Kept.refl _ _⟩
theorem PStep.trans {w0 w w1 w2 : World} {X : Nat} {S S' : PS} (h : PStep w0 w w1 X S) (k : PStep w0 w1 w2 X S') : PStep w0 w w2 X S' := ⟨k.1, h.2.on k.2⟩
theorem PStep.new {w0 w w1 w2 : World} {X : Nat} {S : PS} (h : PStep w0 w w1 X S) (hb : Below w1.heap.size w1 w2) : PStep w0 w w2 X S := ⟨h.1.new hb, h.2.on (Kept.of_below hb)⟩
theorem PStep.ahead {w0 w w1 w2 : World} {X : Nat} {S : PS} (h : Below w.heap.size w w1) (k : PStep w0 w1 w2 X S) : PStep w0 w w2 X S := ⟨k.1, (Kept.of_below h).on k.2⟩
/-- What a call answers that takes a tree. -/
def TrEnd (w0 w w' : World) (e : Ending) (X : Nat) (r : Tr × PS) : Prop := ∃ c, e = .returned (.agg c.toArray) ∧ Cel 8 c ∧ NewAt w0 w' w.heap.size (fun W => TrC W c r.1) ∧ PStep w0 w w' X r.2
end Go.Proofs.YtakceggnadagmaaGreatDoor

namespace Go.Proofs.YtakceggnadagmaaGreatDoor
open Go Go.RowKit GlyphMath LexMath TreeMath ParseMath

theorem PrO.kept0 {w0 w w' : World} {X : Nat} {S : PS} {G o c : Nat} (h : PrO w0 w X S G o c) (hb : Below w.heap.size w w') : PrO w0 w' X S G o c :=
  ⟨h.below.trans (hb.mono h.below.size), h.base, (Kept.of_below (D := fun _ => False) hb).heap h.head (fun h => h), h.cap, h.toks, h.good⟩
theorem tok_f0 (a d : Int) (b : ByteArray) (p : Option Addr) (n k : Nat) (w : World) : (Instr.field 72 (.agg #[.int .i64 a, .string b, .slice p n k, .int .i64 d]) 0).run Tryz.prog w = .ok (.int .i64 a) w := by kernel_rfl
theorem tok_f1 (a d : Int) (b : ByteArray) (p : Option Addr) (n k : Nat) (w : World) : (Instr.field 72 (.agg #[.int .i64 a, .string b, .slice p n k, .int .i64 d]) 1).run Tryz.prog w = .ok (.string b) w := by kernel_rfl
theorem tok_f2 (a d : Int) (b : ByteArray) (p : Option Addr) (n k : Nat) (w : World) : (Instr.field 72 (.agg #[.int .i64 a, .string b, .slice p n k, .int .i64 d]) 2).run Tryz.prog w = .ok (.agg #[.slice p n k]) w := by kernel_rfl
theorem tok_f3 (a d : Int) (b : ByteArray) (p : Option Addr) (n k : Nat) (w : World) : (Instr.field 72 (.agg #[.int .i64 a, .string b, .slice p n k, .int .i64 d]) 3).run Tryz.prog w = .ok (.int .i64 d) w := by kernel_rfl
/-- A token as a value. -/
def tkV (t : Tk) (p : Option Addr) (c : Nat) : Value := .agg #[.int .i64 t.kind, .string (T t.text), .slice p t.word.length c, .int .i64 (t.at_ : Int)]
theorem tok_info : (Tryz.prog.info? 72).map (·.size) = some 4 := by kernel_rfl
theorem ret_tok {fn : Func} {p : Tmp} (hf : fn.results = #[.cell p 72]) {tmps : Array Value} {k : Nat} {a b c d : Value} {w : World} {t : TypeId} {fr : Nat × Nat} (h : w.heap[k]? = some (.cells #[a, b, c, d] t fr)) (h2 : tmps.getD p undef = .pointer (some ⟨k, 0, none⟩)) :
    (results fn tmps).run Tryz.prog w = .ok (.agg #[a, b, c, d]) w := results_cell_row hf tmps w k t #[a, b, c, d] fr _ h2 h Tryz.underlying72 rfl tok_info
theorem node_info : (Tryz.prog.info? 56).map (·.size) = some 8 := by kernel_rfl
/-- What a call answers whose result is a tree in a variable. -/
theorem ret_tree {fn : Func} {p : Tmp} (hf : fn.results = #[.cell p 56]) {tmps : Array Value} {k : Nat} {cs : List Value} {w : World} {t : TypeId} {fr : Nat × Nat} (h : w.heap[k]? = some (.cells cs.toArray t fr)) (hc : Cel 8 cs) (h2 : tmps.getD p undef = .pointer (some ⟨k, 0, none⟩)) :
    (results fn tmps).run Tryz.prog w = .ok (.agg cs.toArray) w := results_cell_row hf tmps w k t cs.toArray fr _ h2 h Tryz.underlying56 rfl (by rw [node_info]; simp [hc.1])
theorem PrO.hd2 {w0 w : World} {X G o c : Nat} {S : PS} (h : PrO w0 w X S G o c) : ∃ p k, (PsAt w0 (.slice p S.hd.word.length k) S.hd.word ∧ S.hd.word.length ≤ k) ∧ w.cell? ⟨G, o, none⟩ = some (.int .i64 S.hd.kind) ∧ w.cell? ⟨G, o + 1, none⟩ = some (.string (T S.hd.text)) ∧ w.cell? ⟨G, o + 2, none⟩ = some (.slice p S.hd.word.length k) ∧ w.cell? ⟨G, o + 3, none⟩ = some (.int .i64 (S.hd.at_ : Int)) := by
  have h0 : S.ts[0]? = some S.hd := by
    rcases h.good.hd with ⟨-, e⟩ | ⟨-, -, e⟩ <;> rw [e] <;> rfl
  obtain ⟨u, hu, ht, hcap⟩ := h.toks 0 _ h0
  obtain ⟨b, o', he, a0, a1, a2, a3⟩ := ht.below h.below
  simp only [Option.some.injEq, Addr.mk.injEq, and_true] at he
  obtain ⟨rfl, rfl⟩ := he
  obtain ⟨p, k, rfl, -⟩ := hu.is
  rw [Nat.zero_mul] at a0 a1 a2 a3
  obtain ⟨p', n', k', e', hle⟩ := hcap
  simp only [Value.slice.injEq] at e'
  obtain ⟨rfl, rfl, rfl⟩ := e'
  exact ⟨p, k, ⟨hu, hle⟩, a0, a1, a2, a3⟩
theorem PrO.hd0 {w0 w : World} {X G o c : Nat} {S : PS} (h : PrO w0 w X S G o c) : ∃ p k, PsAt w0 (.slice p S.hd.word.length k) S.hd.word ∧
    w.cell? ⟨G, o, none⟩ = some (.int .i64 S.hd.kind) ∧ w.cell? ⟨G, o + 1, none⟩ = some (.string (T S.hd.text)) ∧ w.cell? ⟨G, o + 2, none⟩ = some (.slice p S.hd.word.length k) ∧ w.cell? ⟨G, o + 3, none⟩ = some (.int .i64 (S.hd.at_ : Int)) := by
  obtain ⟨p, k, h1, h2⟩ := h.hd2
  exact ⟨p, k, h1.1, h2⟩

theorem cell_alloc {w : World} {a : Addr} {v : Value} (h : w.cell? a = some v) (o : Obj) : (w.alloc o).cell? a = some v := ((Below.refl _ w).alloc (Nat.le_refl _) o).cell (World.block_lt_of_cell? w _ h) |>.trans h
theorem frozen_alloc {w : World} {a : Addr} {v : Value} (h : w.cell? a = some v) (hf : w.frozen? a = false) (o : Obj) : (w.alloc o).frozen? a = false := (World.frozen?_of_block (((Below.refl _ w).alloc (Nat.le_refl _) o).block _ (World.block_lt_of_cell? w _ h))).trans hf
theorem pnext_any {w0 w : World} {X : Nat} {S : PS} (h : Pr w0 w X S) :
    Calls Tryz.prog 45 #[.pointer (some ⟨X, 0, none⟩)] w fun e w' => ∃ p k, e = .returned (tkV S.hd p k) ∧ PsAt w0 (.slice p S.hd.word.length k) S.hd.word ∧ Below w.heap.size w w' := by
  obtain ⟨G, o, c, h⟩ := h
  have c0 : w.cell? ⟨X, 0, none⟩ = some (.slice (some ⟨G, o, none⟩) S.ts.length c) := by rw [cell_plain h.head]; rfl
  obtain ⟨p, k, hu, a0, a1, a2, a3⟩ := h.hd0
  have HU := Lib.hid hu
  obtain ⟨N, hN⟩ : ∃ N, S.ts.length = N := ⟨_, rfl⟩
  have hp := h.good.pos
  rw [hN] at c0 hp
  have hN0 : (0 : Int) < (N : Int) := by omega
  unfold tkV
  obtain ⟨t, ht⟩ : ∃ t, S.hd = t := ⟨_, rfl⟩
  rw [ht] at a0 a1 a2 a3 HU ⊢
  obtain ⟨kd, hkd⟩ : ∃ x, t.kind = x := ⟨_, rfl⟩
  obtain ⟨tx, htx⟩ : ∃ x, T t.text = x := ⟨_, rfl⟩
  obtain ⟨wl, hwl⟩ : ∃ x, t.word.length = x := ⟨_, rfl⟩
  obtain ⟨at_, hat⟩ : ∃ x : Int, (t.at_ : Int) = x := ⟨_, rfl⟩
  rw [hkd] at a0 ⊢
  rw [htx] at a1 ⊢
  rw [hwl] at a2 HU ⊢
  rw [hat] at a3 ⊢
  have d := cell_alloc c0
  have d0 := cell_alloc a0
  have d1 := cell_alloc a1
  have d2 := cell_alloc a2
  have d3 := cell_alloc a3
  clear h hN hp ht hkd htx hwl hat hu c0 a0 a1 a2 a3
  go_enter Tryz.func45, Tryz.ntmps45
  go_wp2_with fail
  (try simp only [Exit.inBlock, Exit.then])
  refine bodyPost_ret (ret_tok rfl (heap_alloc_new w _) rfl) rfl ?_
  exact ⟨p, k, rfl, HU.out, (Below.refl _ w).alloc (Nat.le_refl _) _⟩

theorem pnext2_any {w0 w : World} {X : Nat} {S : PS} (h : Pr w0 w X S) :
    Calls Tryz.prog 45 #[.pointer (some ⟨X, 0, none⟩)] w fun e w' => ∃ p k, e = .returned (tkV S.hd p k) ∧ (PsAt w0 (.slice p S.hd.word.length k) S.hd.word ∧ S.hd.word.length ≤ k) ∧ Below w.heap.size w w' := by
  obtain ⟨G, o, c, h⟩ := h
  have c0 : w.cell? ⟨X, 0, none⟩ = some (.slice (some ⟨G, o, none⟩) S.ts.length c) := by rw [cell_plain h.head]; rfl
  obtain ⟨p, k, hu, a0, a1, a2, a3⟩ := h.hd2
  have HU := Lib.hid hu
  obtain ⟨N, hN⟩ : ∃ N, S.ts.length = N := ⟨_, rfl⟩
  have hp := h.good.pos
  rw [hN] at c0 hp
  have hN0 : (0 : Int) < (N : Int) := by omega
  unfold tkV
  obtain ⟨t, ht⟩ : ∃ t, S.hd = t := ⟨_, rfl⟩
  rw [ht] at a0 a1 a2 a3 HU ⊢
  obtain ⟨kd, hkd⟩ : ∃ x, t.kind = x := ⟨_, rfl⟩
  obtain ⟨tx, htx⟩ : ∃ x, T t.text = x := ⟨_, rfl⟩
  obtain ⟨wl, hwl⟩ : ∃ x, t.word.length = x := ⟨_, rfl⟩
  obtain ⟨at_, hat⟩ : ∃ x : Int, (t.at_ : Int) = x := ⟨_, rfl⟩
  rw [hkd] at a0 ⊢
  rw [htx] at a1 ⊢
  rw [hwl] at a2 HU ⊢
  rw [hat] at a3 ⊢
  have d := cell_alloc c0
  have d0 := cell_alloc a0
  have d1 := cell_alloc a1
  have d2 := cell_alloc a2
  have d3 := cell_alloc a3
  clear h hN hp ht hkd htx hwl hat hu c0 a0 a1 a2 a3
  go_enter Tryz.func45, Tryz.ntmps45
  go_wp2_with fail
  (try simp only [Exit.inBlock, Exit.then])
  refine bodyPost_ret (ret_tok rfl (heap_alloc_new w _) rfl) rfl ?_
  exact ⟨p, k, rfl, HU.out, (Below.refl _ w).alloc (Nat.le_refl _) _⟩

theorem ToksAt.tail {w : World} {G o : Nat} {ts : List Tk} (h : ToksAt w G o ts) : ToksAt w G (o + 4) ts.tail := by
  have := h.drop 1
  rwa [Nat.one_mul, List.drop_one] at this
theorem heap_set_other {w : World} {g k : Nat} (h : k ≠ g) (i : Nat) (u : Value) : (w.setCell ⟨g, i, none⟩ u).heap[k]? = w.heap[k]? := Below.heap_setCell _ _ _ _ h
theorem kept_row {w w1 : World} {g : Nat} (h : Below w.heap.size w w1) (hg : w.heap.size ≤ g) (cs : Array Value) : Kept (fun i => w.heap.size ≤ i) w (w1.setRow g cs) :=
  ⟨h.os, h.tape, h.output, by rw [setRow_size]; exact h.size, fun i hi _ => by rw [setRow_other _ _ _ _ (by omega)]; exact h.block i hi⟩
theorem kept_row0 (w : World) (g : Nat) (cs : Array Value) : Kept (fun i => i = g) w (w.setRow g cs) :=
  ⟨rfl, rfl, rfl, by rw [setRow_size]; exact Nat.le_refl _, fun i _ h => setRow_other _ _ _ _ h⟩
/-- A parser's reader one token further. -/
theorem PrO.tail {w0 w : World} {X : Nat} {S : PS} {G o c : Nat} (h : PrO w0 w X S G o c) (hk : S.hd.kind ≠ 3) :
    Pr w0 (w.setCell ⟨X, 0, none⟩ (.slice (some ⟨G, o + 4, none⟩) (S.ts.length - 1) (c - 1))) X S.take := by
  have hc := h.cap
  have e : S.take = { S with ts := S.ts.tail } := by unfold PS.take; rw [if_neg hk]
  have hl : S.ts.tail.length = S.ts.length - 1 := by simp
  refine ⟨G, o + 4, c - 1, h.below.setCell h.base _, h.base, ?_, by rw [e, hl]; omega, by rw [e]; exact h.toks.tail, (to_take h.good).good⟩
  rw [e, hl]
  have := heap_setCell_same w X 0 _ _ (.slice (some ⟨G, o + 4, none⟩) (S.ts.length - 1) (c - 1)) h.head
  simpa using this

set_option maxHeartbeats 400000 in
theorem ptake_any {w0 w : World} {X : Nat} {S : PS} (h : Pr w0 w X S) :
    Calls Tryz.prog 105 #[.pointer (some ⟨X, 0, none⟩)] w fun e w' => ∃ p k, e = .returned (tkV S.hd p k) ∧ PsAt w0 (.slice p S.hd.word.length k) S.hd.word ∧ PStep w0 w w' X S.take := by
  obtain ⟨Z, hZ⟩ : ∃ Z : Obj, Z = .cells #[.int .i64 0, .string ⟨#[]⟩, .slice none 0 0, .int .i64 0] 72 := ⟨_, rfl⟩
  have h1 : Pr w0 (w.alloc Z) X S := h.new ((Below.refl _ w).alloc (Nat.le_refl _) _)
  have HN := Lib.hid (pnext_any h1)
  have HP := Lib.hid h
  have HX := Lib.hid h.base
  have htw := two_of h.good
  obtain ⟨G, o, c, h1⟩ := h1
  have HO := Lib.hid h1
  have HSAME := Lib.hid (show S.hd.kind = 3 → S.take = S from fun hk => by unfold PS.take; rw [if_pos hk])
  have hca := h1.cap
  obtain ⟨N, hN⟩ : ∃ N, S.ts.length = N := ⟨_, rfl⟩
  have HNN := Lib.hid hN
  rw [hN] at htw hca
  obtain ⟨t, ht⟩ : ∃ t, S.hd = t := ⟨_, rfl⟩
  have HH := Lib.hid ht
  rw [ht] at HN HSAME htw ⊢
  unfold tkV at HN ⊢
  obtain ⟨kd, hkd⟩ : ∃ x, t.kind = x := ⟨_, rfl⟩
  have HK := Lib.hid hkd
  obtain ⟨tx, htx⟩ : ∃ x, T t.text = x := ⟨_, rfl⟩
  obtain ⟨wl, hwl⟩ : ∃ x, t.word.length = x := ⟨_, rfl⟩
  obtain ⟨at_, hat⟩ : ∃ x : Int, (t.at_ : Int) = x := ⟨_, rfl⟩
  rw [hkd] at HSAME htw
  simp only [hkd, htx, hwl, hat] at HN ⊢
  have HB0 := Lib.hid (show Below w.heap.size w (w.alloc Z) from (Below.refl w.heap.size w).alloc (Nat.le_refl _) Z)
  obtain ⟨wz, hwz⟩ : ∃ wz, wz = w.alloc Z := ⟨_, rfl⟩
  have HZ0 := Lib.hid (show wz.heap[w.heap.size]? = some Z ∧ wz.heap.size = w.heap.size + 1 from by rw [hwz]; exact ⟨heap_alloc_new w Z, by simp⟩)
  rw [← hwz] at HO HB0
  have HW := Lib.hid (hwz.trans (by rw [hZ]))
  rw [hZ] at HN
  clear hwz
  have key : ∀ w1, Below wz.heap.size wz w1 → w1.heap[w.heap.size]? = some Z ∧ PrO w0 w1 X S G o c ∧ w1.cell? ⟨X, 0, none⟩ = some (.slice (some ⟨G, o, none⟩) N c) ∧ w1.frozen? ⟨X, 0, none⟩ = false ∧ w.heap.size < w1.heap.size ∧ X ≠ w.heap.size ∧ X < w1.heap.size := fun w1 hb => by
    have hr := HO.out.kept0 hb
    have hx := (Array.getElem?_eq_some_iff.1 hr.head).1
    have h0 := HX.out
    have hs := hb.size
    have hz := HZ0.out.2
    exact ⟨(hb.block w.heap.size (by omega)).trans HZ0.out.1, hr, by rw [cell_plain hr.head, ← HNN.out]; rfl, frozen_plain hr.head 0, by omega, by omega, hx⟩
  have HKEY := Lib.hid key
  clear h h1 hN ht hkd htx hwl hat key
  by_cases h3 : kd = 3
  · subst h3
    rw [HSAME.out rfl]
    go_enter Tryz.func105, Tryz.ntmps105
    go_wp2_with (first
      | (go_at_call 45; refine HN.out.mono ?_; rintro e w1 ⟨p, k, rfl, hu, hb1⟩; have HU := Lib.hid hu; have HB1 := Lib.hid (show Below wz.heap.size wz w1 from by rw [HW.out]; exact hb1); clear hu hb1)
      | (refine wpList_store_row (by rfl) 72 (.tmp 2) (.tmp 17) (by rfl) w.heap.size #[.int .i64 3, .string tx, .slice p wl k, .int .i64 at_] (by rfl) (by rfl) 72 #[.int .i64 0, .string ⟨#[]⟩, .slice none 0 0, .int .i64 0] ((Below.heap_alloc w1 _ _ (HKEY.out w1 HB1.out).2.2.2.2.1).trans (by rw [(HKEY.out w1 HB1.out).1, hZ])) tok_info rfl (by simp [Value.oneCell']) ?_))
    (try simp only [Exit.inBlock, Exit.then])
    obtain ⟨k1, k2, k3, k4, k5, k6, k7⟩ := HKEY.out w1 HB1.out
    refine bodyPost_ret (ret_tok rfl (setRow_heap _ w.heap.size _ _ _ (0, 0) ((Below.heap_alloc w1 _ _ k5).trans (by rw [k1, hZ]))) rfl) rfl ?_
    have hk1 : Below w.heap.size w (w1.alloc (.cells #[.int .i64 3, .string tx, .slice p wl k, .int .i64 at_] 72)) := (HB0.out.trans (HB1.out.mono HB0.out.size)).alloc (by omega) _
    refine ⟨p, k, rfl, HU.out, ?_, ?_⟩
    · exact HP.out.kept (D := fun i => w.heap.size ≤ i) (kept_row hk1 (Nat.le_refl _) _) (by have := HX.out; omega) (fun i hi => by have := HX.out; omega)
    · exact (kept_row hk1 (Nat.le_refl _) _).mono fun i h1 h2 => absurd h1 (by omega)
  · have h2N := htw h3
    have hkd : (kd != 3) = true := by simpa using h3
    have q1 : (1 : Int) ≤ (N : Int) := by omega
    have q2 : (N : Int) ≤ (c : Int) := by omega
    have q3 : (1 : Int) < (c : Int) := by omega
    have q4 : (c - 1 == 0) = false := by
      have : ¬ c - 1 = 0 := by omega
      simpa using this
    have HK3 := Lib.hid (show S.hd.kind ≠ 3 from by rw [HH.out, HK.out]; exact h3)
    clear htw hca h2N h3
    go_enter Tryz.func105, Tryz.ntmps105
    go_wp2_with (first
      | (go_at_call 45; refine HN.out.mono ?_; rintro e w1 ⟨p, k, rfl, hu, hb1⟩; have HU := Lib.hid hu; have HB1 := Lib.hid (show Below wz.heap.size wz w1 from by rw [HW.out]; exact hb1); clear hu hb1; have d := cell_alloc (HKEY.out w1 HB1.out).2.2.1; have df := frozen_alloc (HKEY.out w1 HB1.out).2.2.1 (HKEY.out w1 HB1.out).2.2.2.1)
      | (refine wpList_load_row (by rfl) 72 (.tmp 3) (by rfl) w1.heap.size (by rfl) 72 #[.int .i64 kd, .string tx, .slice p wl k, .int .i64 at_] (0, 0) _ ((heap_set_other (Nat.ne_of_gt (HKEY.out w1 HB1.out).2.2.2.2.2.2) _ _).trans (heap_alloc_new w1 _)) Tryz.underlying72 rfl tok_info ?_)
      | (refine wpList_store_row (by rfl) 72 (.tmp 2) (.tmp 17) (by rfl) w.heap.size #[.int .i64 kd, .string tx, .slice p wl k, .int .i64 at_] (by rfl) (by rfl) 72 #[.int .i64 0, .string ⟨#[]⟩, .slice none 0 0, .int .i64 0] ((heap_set_other (Ne.symm (HKEY.out w1 HB1.out).2.2.2.2.2.1) _ _).trans ((Below.heap_alloc w1 _ _ (HKEY.out w1 HB1.out).2.2.2.2.1).trans (by rw [(HKEY.out w1 HB1.out).1, hZ]))) tok_info rfl (by simp [Value.oneCell']) ?_))
    (try simp only [Exit.inBlock, Exit.then])
    obtain ⟨k1, k2, k3, k4, k5, k6, k7⟩ := HKEY.out w1 HB1.out
    refine bodyPost_ret (ret_tok rfl (setRow_heap _ w.heap.size _ _ _ (0, 0) ((heap_set_other (Ne.symm k6) _ _).trans ((Below.heap_alloc w1 _ _ k5).trans (by rw [k1, hZ])))) rfl) rfl ?_
    have hk1 : Below w.heap.size w (w1.alloc (.cells #[.int .i64 kd, .string tx, .slice p wl k, .int .i64 at_] 72)) := (HB0.out.trans (HB1.out.mono HB0.out.size)).alloc (by omega) _
    have hr := (k2.kept0 ((Below.refl _ w1).alloc (Nat.le_refl _) (.cells #[.int .i64 kd, .string tx, .slice p wl k, .int .i64 at_] 72))).tail HK3.out
    rw [HNN.out] at hr
    refine ⟨p, k, rfl, HU.out, ?_, ?_⟩
    · exact hr.kept (D := fun i => i = w.heap.size) (kept_row0 _ _ _) k6 (fun i hi => by have := HX.out; omega)
    · refine ((Kept.of_below (D := fun i => i = X) hk1).setCell (p := ⟨X, 0, none⟩) (.inl rfl) _).trans (kept_row0 _ w.heap.size _) fun i hi => .inr (by omega)
end Go.Proofs.YtakceggnadagmaaGreatDoor
