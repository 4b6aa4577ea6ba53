/-
  Proved: Same answers true of two rows of the same letters. Conditions: the rows are owned.
-/
import Derived.Test.YtfepkhlifpbkfaaDoorGlyphRow
namespace Go.Proofs.YtfepkhlifpbkfaaDoor
open Go Go.RowKit GlyphMath

/-- A row's text. -/
def textOf (l : List Nat) : ByteArray := if l.length = 0 then .empty else runesBytes (l.map fun (x : Nat) => (x : Int))

theorem RowL.cell {w : World} {B g c : Nat} {l : List Nat} (h : RowL w B (.slice (some ⟨g, 0, none⟩) l.length c) l) (j : Nat) (hj : j < l.length) : w.cell? ⟨g, j, none⟩ = some (.int .i32 (l[j] : Nat)) := by
  rw [World.ownsRow.cellAt h j (by omega)]
  simp [rc, hj]
theorem addr_add (g j : Nat) : (⟨g, 0, none⟩ : Addr).add j = ⟨g, j, none⟩ := by
  unfold Addr.add
  by_cases h : j = 0 <;> simp [h]
theorem RowL.shape {w : World} {B : Nat} {v : Value} {l : List Nat} (h : RowL w B v l) : ∃ a c, v = .slice a l.length c := by
  rcases h.2 with ⟨hv, hn⟩ | ⟨g, cap, cur, hv, -⟩
  · exact ⟨none, 0, by rw [hv, hn]⟩
  · exact ⟨_, _, hv⟩

theorem RowL.convert {w : World} {B : Nat} {v : Value} {l : List Nat} (h : RowL w B v l) : (convert 49 9 v).run Tryd.prog w = .ok (.string (textOf l)) w := by
  rcases h.is with ⟨rfl, rfl⟩ | ⟨g, c, rfl⟩
  · exact run_convert_runes_nil w 49 9 21 0 0 Tryd.underlying49 Tryd.underlying21 Tryd.underlying9
  · have k := run_convert_runes (P := Tryd.prog) w 49 9 21 ⟨g, 0, none⟩ l.length c (l.map fun (x : Nat) => (x : Int)) (by simp) Tryd.underlying49 Tryd.underlying21 Tryd.underlying9 (fun j hj => by
      have hj' : j < l.length := by simpa using hj
      have := h.cell j hj'
      rw [addr_add, this]
      simp [List.getD, hj'])
    rw [k, List.take_of_length_le (by simp)]
    unfold textOf
    by_cases h0 : l.length = 0
    · rw [if_pos h0, List.eq_nil_of_length_eq_zero h0]; rfl
    · rw [if_neg h0]
end Go.Proofs.YtfepkhlifpbkfaaDoor
