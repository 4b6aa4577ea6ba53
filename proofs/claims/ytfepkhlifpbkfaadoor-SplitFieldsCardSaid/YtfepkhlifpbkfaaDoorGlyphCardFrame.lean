/-
  Proved: what each row of chapter 7's cards takes of its listed variables. Conditions: as the rows say.
-/
import Derived.Test.YtfepkhlifpbkfaaDoorCards
import Derived.Test.YtfepkhlifpbkfaaDoorTie
import Derived.Test.YtfepkhlifpbkfaaDoorGlyphTabs
import Derived.Test.YtfepkhlifpbkfaaDoorGlyphFrame
import Derived.LaidMore
import Derived.Lay
import Derived.Carry
import Derived.Stop.Joined
import Derived.Stop.LaidErr
import Derived.Deep.Fields
import Derived.Deep.Slices
namespace Go.Proofs.YtfepkhlifpbkfaaDoor
open Go Go.ChangeShapes Go.WideShapes Go.ChangeAt Go.WideMaps Go.WideElems Go.RowKit GlyphMath

theorem tabs_of_laidH {W : World} (h : laidMetH Tryd.prog laidL W) : Tabs W := by
  rw [MakeChecks.laidMetH_plain _ _ _ (by kernel_rfl)] at h
  exact tabs_of_laid h
end Go.Proofs.YtfepkhlifpbkfaaDoor
