/-
  Proved: what the rows of chapter 9's cards that list the library's tables take of their listed variables. Conditions: as the rows say.
-/
import Derived.Test.YtloaalapkmbgeaaDoorTreeCardFrame
import Derived.Test.YtloaalapkmbgeaaDoorGlyphTabs
namespace Go.Proofs.YtloaalapkmbgeaaDoor
open Go Go.ChangeShapes Go.WideShapes Go.ChangeAt Go.WideMaps Go.WideElems Go.RowKit GlyphMath LexMath TreeMath

def bothL : List (String × DataW Unit) := [("unicode/utf8.acceptRanges", Rows.laid_unicode_utf8_acceptRanges), ("lazarus/tree.shapes", Rows.laid_lazarus_tree_shapes), ("unicode/utf8.first", Rows.laid_unicode_utf8_first)]
theorem both_of_laidH {W : World} (h : laidMetH Tryd.prog bothL W) : Shapes W ∧ Tabs W := by
  rw [MakeChecks.laidMetH_plain _ _ _ (by kernel_rfl)] at h
  refine ⟨shapes_of_reads (Lib.laidMet.reads h (by simp [bothL])), ?_⟩
  have h3 := Lib.laidMet.reads h (n := "unicode/utf8.first") (d := Rows.laid_unicode_utf8_first) (by simp [bothL])
  have h4 := Lib.laidMet.reads h (n := "unicode/utf8.acceptRanges") (d := Rows.laid_unicode_utf8_acceptRanges) (by simp [bothL])
  rw [first_is] at h3
  rw [accept_is] at h4
  exact utf8Tabs_of_reads lays260 extra h3 h4
end Go.Proofs.YtloaalapkmbgeaaDoor
