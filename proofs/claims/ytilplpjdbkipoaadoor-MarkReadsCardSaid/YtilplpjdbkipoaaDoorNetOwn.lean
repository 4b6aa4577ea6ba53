/-
  Proved: what is owned as the library says it is owned as bytes. Conditions: none.
-/
import Derived.Test.YtilplpjdbkipoaaDoorBytes
import Derived.Lib.SlFresh
namespace Go.Proofs.YtilplpjdbkipoaaDoor.NetMem
open Go Go.RowKit

/-- What is owned as the library says it. -/
theorem Own.of_ownsRow {w : World} {B : Nat} {e : TypeId} {v : Value} {l : List UInt8} {n : Nat} (h : w.ownsRow B e 1 v n (Lib.byteCells l)) : Own w B v l := by
  have hl : l.length = n := by have := h.1; simp [Lib.byteCells] at this; exact this
  subst hl
  rcases h.2 with ⟨rfl, h0⟩ | ⟨g, cap, cur, rfl, hB, hg, hnc, hcm, hcs, htake⟩
  · exact .inl ⟨rfl, List.eq_nil_of_length_eq_zero h0⟩
  · refine .inr ⟨g, cap, rfl, hB, (Array.getElem?_eq_some_iff.1 hg).1, hnc, hcm, fun j hj => ⟨?_, ?_⟩, fun j hj => ?_⟩
    · rw [cell_of_row w g j cur e (0, 0) hg]
      have : j < cur.size := by omega
      simp [this]
    · simp [World.frozen?, hg]
    · have := h.cells (g := g) rfl j _ (bc_at l j hj)
      rw [Lib.add_plain, Nat.zero_add] at this
      exact this

end Go.Proofs.YtilplpjdbkipoaaDoor.NetMem
