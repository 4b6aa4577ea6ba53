/-
  Proved: rows of rows that a literal has just made. Conditions: as each says.
-/
import Derived.Test.YtbbopbbnhkcfdaaEnMem
namespace Go.Proofs.Ytbbopbbnhkcfdaa
open Go Go.RowKit EnMath

section
variable {α : Type} {sz : Nat} {enc : α → List Value}
theorem en_flat_le (ls : List (List α)) (k : Nat) : (ls.take k).flatten.length ≤ ls.flatten.length := by
  conv => rhs; rw [← List.take_append_drop k ls, List.flatten_append, List.length_append]
  omega
theorem en_take_flat (ls : List (List α)) (k : Nat) (h : k < ls.length) : (ls.take (k + 1)).flatten = (ls.take k).flatten ++ ls[k] := by
  rw [List.take_succ_eq_append_getElem h, List.flatten_append]
  simp
/-- Rows in a row. -/
def CatAt (sz : Nat) (enc : α → List Value) (w : World) (p : Option Addr) (ls : List (List α)) : Prop :=
  ∀ (i : Nat) (hi : i < ls.length), ∃ b o v, p = some ⟨b, o, none⟩ ∧ w.cell? ⟨b, o + i, none⟩ = some v ∧ Rd sz enc w v ls[i]
theorem CatAt.below {w w' : World} {p : Option Addr} {ls : List (List α)} (h : CatAt sz enc w p ls) (hb : Below w.heap.size w w') : CatAt sz enc w' p ls := fun i hi => by
  obtain ⟨b, o, v, hp, hc, hr⟩ := h i hi
  exact ⟨b, o, v, hp, (World.cell?_of_block (hb.block b (World.block_lt_of_cell? w _ hc))).trans hc, hr.below hb (Nat.le_refl _)⟩
theorem CatAt.of_block {w : World} {g : Nat} {e : TypeId} {vs : List Value} {ls : List (List α)} (hg : w.heap[g]? = some (.cells vs.toArray e (0, 0))) (hl : vs.length = ls.length)
    (h : ∀ (i : Nat) (hi : i < ls.length), Rd sz enc w (vs[i]'(by omega)) ls[i]) : CatAt sz enc w (some ⟨g, 0, none⟩) ls := fun i hi => by
  refine ⟨g, 0, vs[i]'(by omega), rfl, ?_, h i hi⟩
  rw [Nat.zero_add, cell_of_row w g i _ _ _ hg]
  simp
theorem cat_one {w : World} {g : Nat} (hg : g = w.heap.size) {e : TypeId} {v : Value} {l : List α} (h : Rd sz enc w v l) : CatAt sz enc (w.alloc (.cells #[v] e)) (some ⟨g, 0, none⟩) [l] := by
  subst hg
  have hb : Below w.heap.size w (w.alloc (.cells #[v] e)) := (Below.refl _ w).alloc (Nat.le_refl _) _
  refine CatAt.of_block (vs := [v]) (heap_alloc_new w _) rfl fun i hi => ?_
  match i, hi with
  | 0, _ => exact h.below hb (Nat.le_refl _)
theorem cat_two {w : World} {g : Nat} (hg : g = w.heap.size) {e : TypeId} {v1 v2 : Value} {l1 l2 : List α} (h1 : Rd sz enc w v1 l1) (h2 : Rd sz enc w v2 l2) : CatAt sz enc (w.alloc (.cells #[v1, v2] e)) (some ⟨g, 0, none⟩) [l1, l2] := by
  subst hg
  have hb : Below w.heap.size w (w.alloc (.cells #[v1, v2] e)) := (Below.refl _ w).alloc (Nat.le_refl _) _
  refine CatAt.of_block (vs := [v1, v2]) (heap_alloc_new w _) rfl fun i hi => ?_
  match i, hi with
  | 0, _ => exact h1.below hb (Nat.le_refl _)
  | 1, _ => exact h2.below hb (Nat.le_refl _)
theorem cat_three {w : World} {g : Nat} (hg : g = w.heap.size) {e : TypeId} {v1 v2 v3 : Value} {l1 l2 l3 : List α} (h1 : Rd sz enc w v1 l1) (h2 : Rd sz enc w v2 l2) (h3 : Rd sz enc w v3 l3) : CatAt sz enc (w.alloc (.cells #[v1, v2, v3] e)) (some ⟨g, 0, none⟩) [l1, l2, l3] := by
  subst hg
  have hb : Below w.heap.size w (w.alloc (.cells #[v1, v2, v3] e)) := (Below.refl _ w).alloc (Nat.le_refl _) _
  refine CatAt.of_block (vs := [v1, v2, v3]) (heap_alloc_new w _) rfl fun i hi => ?_
  match i, hi with
  | 0, _ => exact h1.below hb (Nat.le_refl _)
  | 1, _ => exact h2.below hb (Nat.le_refl _)
  | 2, _ => exact h3.below hb (Nat.le_refl _)
/-- One element that a literal has just made. -/
theorem Rd.one (w : World) {g : Nat} (hg : g = w.heap.size) (e : TypeId) (x : α) {cs : Array Value} (hcs : cs = (enc x).toArray) : Rd sz enc (w.alloc (.cells cs e)) (.slice (some ⟨g, 0, none⟩) 1 1) [x] := by
  subst hcs
  subst hg
  refine ⟨_, 1, rfl, Nat.le_refl _, by decide, .inr ⟨_, 0, rfl, fun k y hk i u hu => ?_⟩⟩
  obtain rfl : k = 0 := by have := (List.getElem?_eq_some_iff.1 hk).1; simp at this; exact this
  simp only [List.getElem?_cons_zero, Option.some.injEq] at hk
  subst hk
  rw [Nat.zero_mul, Nat.zero_add, cell_of_row _ _ i _ _ _ (heap_alloc_new w _)]
  simpa using hu
end
end Go.Proofs.Ytbbopbbnhkcfdaa
