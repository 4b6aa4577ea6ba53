/-
  Proved: how the statements' own fields lie in memory while they are made. Conditions: as each says.
-/
import Derived.Test.YtfepkhlifpbkfaaDoorSpAdd
namespace Go.Proofs.YtfepkhlifpbkfaaDoor
open Go Go.RowKit GlyphMath GlMath SpMath

/-- What is not begun has no letters. -/
def WfF (f : Fld) : Prop := f.begun = false → f.last = []
theorem WfF.fin (f : Fld) (h : WfF f) : WfF f.fin := by
  unfold Fld.fin
  split
  · exact fun _ => rfl
  · exact h
theorem WfF.fin_eq {f : Fld} (h : WfF f) (hb : f.begun = false) : f.fin = ⟨f.ended, [], false⟩ := by
  unfold Fld.fin
  rw [if_neg (by rw [hb]; decide)]
  obtain ⟨e, l, b⟩ := f
  simp only at hb
  subst hb
  have : l = [] := h rfl
  rw [this]
theorem WfF.put (q s : Bool) (f : Fld) (r : Nat) (h : WfF f) : WfF (f.put q s r) := by
  unfold Fld.put
  split
  · exact h.fin
  · exact fun e => by cases e
theorem WfF.opens (q : Bool) (f : Fld) (h : WfF f) : WfF (f.opens q) := fun e => h (by
  have e : (f.begun || q) = false := e
  exact (Bool.or_eq_false_iff.1 e).1)
structure StR (w : World) (B : Nat) (ve vl : Value) (vs : List Sl) (f : Fld) : Prop where
  fs : Fs w B ve vs f.ended
  row : RowOf w B vl f.last
  ap : ∀ (k : Nat) (u : Sl), vs[k]? = some u → ∀ g, (slV u).ownBlock = some g → vl.ownBlock ≠ some g
section
variable {w w' : World} {B : Nat} {ve vl : Value} {vs : List Sl} {f : Fld}
theorem StR.kept (h : StR w B ve vl vs f) (hk : Cs w w') : StR w' B ve vl vs f := by
  have own : ∀ {B e size n : Nat} {v : Value} {xs : List Value}, w.ownsRow B e size v n xs → w'.ownsRow B e size v n xs := fun h => own_same h fun g hg => by
    obtain ⟨c, hc⟩ := own_type h hg
    rw [hk _ _ _ _ hc, hc]
  exact ⟨⟨own h.fs.row, h.fs.len, fun k u l hu hl => own (h.fs.each k u l hu hl)⟩, own h.row, h.ap⟩
theorem below_cells (hb : Below w.heap.size w w') : Cs w w' := fun k _ _ _ h => (hb.block k (Array.getElem?_eq_some_iff.1 h).1).trans h
theorem StR.opens (h : StR w B ve vl vs f) (q : Bool) : StR w B ve vl vs (f.opens q) := ⟨h.fs, h.row, h.ap⟩
/-- The field that was begun has ended. -/
theorem StR.fin {v' : Value} {p : Option Addr} {n c : Nat} (h : StR w B ve (.slice p n c) vs f) (hb : f.begun = true)
    (hown : w'.ownsRow B 32 1 v' (vs.length + 1) (vs.flatMap slC ++ [.slice p n c]))
    (hk : ∀ k, k < w.heap.size → ve.ownBlock ≠ some k → w'.heap[k]? = w.heap[k]?) : StR w' B v' (.slice none 0 0) (vs ++ [(p, n, c)]) f.fin := by
  have ef : f.fin = ⟨f.ended ++ [f.last], [], false⟩ := by unfold Fld.fin; rw [if_pos hb]
  rw [ef]
  have old : ∀ (u : Value) (l : List Ch), RowOf w B u l → RowOf w' B u l := fun u l hu => own_same hu fun g hg => hk g (World.ownsRow.lt hu g hg).2 (own_ap hu h.fs.row (by decide) hg)
  refine ⟨⟨?_, by simp [h.fs.len], fun k u l hu hl => ?_⟩, World.ownsRow_nil _ _ _ _, fun k u hu g hg e => by cases e⟩
  · have e1 : (vs ++ [(p, n, c)]).length = vs.length + 1 := by simp
    rw [e1, List.flatMap_append]
    exact hown
  · rcases Nat.lt_or_ge k vs.length with h1 | h1
    · rw [List.getElem?_append_left h1] at hu
      rw [List.getElem?_append_left (by rw [← h.fs.len]; exact h1)] at hl
      exact old _ _ (h.fs.each k u l hu hl)
    · rw [List.getElem?_append_right h1] at hu
      rw [List.getElem?_append_right (by rw [← h.fs.len]; exact h1)] at hl
      obtain ⟨e1, e2⟩ : k - vs.length = 0 ∧ k - f.ended.length = 0 := by
        have h2 := (List.getElem?_eq_some_iff.1 hu).1
        have h3 := h.fs.len
        simp only [List.length_singleton] at h2
        omega
      rw [e1] at hu
      rw [e2] at hl
      simp only [List.getElem?_cons_zero, Option.some.injEq] at hu hl
      subst hu hl
      exact old _ _ h.row
/-- None was begun. -/
theorem StR.noneF (h : StR w B ve vl vs f) (hw : WfF f) (hb : f.begun = false) : StR w B ve (.slice none 0 0) vs f.fin := by
  rw [hw.fin_eq hb]
  exact ⟨h.fs, World.ownsRow_nil _ _ _ _, fun k u hu g hg e => by cases e⟩
/-- A letter has been put to the last one. -/
theorem StR.put {g cap n : Nat} {x : Ch} (hn : f.last.length = n) (h : StR w B ve vl vs f)
    (hown : w'.ownsRow B 48 2 (.slice (some ⟨g, 0, none⟩) (n + 1) cap) (n + 1) (f.last.flatMap cC ++ [.int .i32 x.1, .bool x.2]))
    (hk : ∀ k, k < w.heap.size → vl.ownBlock ≠ some k → w'.heap[k]? = w.heap[k]?) (hg : vl.ownBlock = some g ∨ w.heap.size ≤ g) : StR w' B ve (.slice (some ⟨g, 0, none⟩) (n + 1) cap) vs ⟨f.ended, f.last ++ [x], true⟩ := by
  have each : ∀ (k : Nat) (u : Sl), vs[k]? = some u → ∃ l, f.ended[k]? = some l ∧ RowOf w B (slV u) l := fun k u hu => by
    have h1 := (List.getElem?_eq_some_iff.1 hu).1
    obtain ⟨l, hl⟩ : ∃ l, f.ended[k]? = some l := ⟨_, List.getElem?_eq_getElem (by rw [← h.fs.len]; exact h1)⟩
    exact ⟨l, hl, h.fs.each k u l hu hl⟩
  refine ⟨⟨own_same h.fs.row fun g hg => hk g (World.ownsRow.lt h.fs.row g hg).2 (own_ap h.fs.row h.row (by decide) hg), h.fs.len, fun k u l hu hl => ?_⟩, ?_, fun k u hu g' hg' e => ?_⟩
  · have hr := h.fs.each k u l hu hl
    exact own_same hr fun g hg => hk g (World.ownsRow.lt hr g hg).2 (h.ap k u hu g hg)
  · show w'.ownsRow _ _ _ _ (f.last ++ [x]).length _
    have e1 : (f.last ++ [x]).length = n + 1 := by simp [hn]
    rw [e1, List.flatMap_append]
    exact hown
  · have e : g = g' := by simpa [Value.ownBlock] using e
    subst e
    obtain ⟨l, -, hr⟩ := each k u hu
    rcases hg with hg | hg
    · exact h.ap k u hu g hg' hg
    · have := (World.ownsRow.lt hr g hg').2; omega
end
end Go.Proofs.YtfepkhlifpbkfaaDoor
