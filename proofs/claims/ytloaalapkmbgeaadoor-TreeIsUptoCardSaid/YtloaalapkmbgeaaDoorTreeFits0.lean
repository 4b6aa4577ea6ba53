/-
  Proved: how the program's shapes lie, and what a place of them is. Conditions: as each says.
-/
import Derived.Test.YtloaalapkmbgeaaDoorTreeShape0
namespace Go.Proofs.YtloaalapkmbgeaaDoor
open Go Go.RowKit GlyphMath LexMath TreeMath

/-- The program's shapes as cells. -/
def shapeCells : List Value := shapesL.flatMap fun s => [txt s.op, .int .i64 s.k0, .int .i64 s.k1, .int .i64 s.w0, .int .i64 s.w1, .bool s.name, .bool s.pats, .bool s.assigns, .bool s.redirs]
/-- The program's shapes lie as they should. -/
def Shapes (w : World) : Prop := w.rangeAt 0 0 shapeCells
theorem Shapes.below {w w' : World} (h : Shapes w) (hb : Below w.heap.size w w') : Shapes w' := fun j v hj => cell_below (h j v hj) hb
theorem info_shapes : (Tryd.prog.info? 81).map (·.size) = some shapeCells.length := by kernel_rfl
theorem shape_at (w : World) : ∀ (k : Nat) (s : Sh), shapesL[k]? = some s → (Instr.index 81 (.agg shapeCells.toArray) (.int .i64 (k : Int))).run Tryd.prog w = .ok (shapeV s) w
  | 0, s, h => by obtain rfl := Option.some.inj h; kernel_rfl
  | 1, s, h => by obtain rfl := Option.some.inj h; kernel_rfl
  | 2, s, h => by obtain rfl := Option.some.inj h; kernel_rfl
  | 3, s, h => by obtain rfl := Option.some.inj h; kernel_rfl
  | 4, s, h => by obtain rfl := Option.some.inj h; kernel_rfl
  | 5, s, h => by obtain rfl := Option.some.inj h; kernel_rfl
  | 6, s, h => by obtain rfl := Option.some.inj h; kernel_rfl
  | 7, s, h => by obtain rfl := Option.some.inj h; kernel_rfl
  | 8, s, h => by obtain rfl := Option.some.inj h; kernel_rfl
  | 9, s, h => by obtain rfl := Option.some.inj h; kernel_rfl
  | 10, s, h => by obtain rfl := Option.some.inj h; kernel_rfl
  | 11, s, h => by obtain rfl := Option.some.inj h; kernel_rfl
  | 12, s, h => by obtain rfl := Option.some.inj h; kernel_rfl
  | 13, s, h => by obtain rfl := Option.some.inj h; kernel_rfl
  | k + 14, s, h => by simp [shapesL] at h
end Go.Proofs.YtloaalapkmbgeaaDoor
