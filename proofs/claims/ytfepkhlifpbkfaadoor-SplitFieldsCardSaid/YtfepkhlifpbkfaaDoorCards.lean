/-
  DERIVED. GIVEN WITH THE SEED: THE CARDS: each row of YtfepkhlifpbkfaaDoorRows.lean that lists a variable, with what it lists TIED to the program's text (the seventh form; the later family's looks); each row that meets fmt, with fmt's text TOLD by the authors' own Lean function (tested against real Go, not proved from fmt's source: count such statements apart). THE CARD IS WHAT COUNTS. Prove the row's statement (the work); the ties are given (YtfepkhlifpbkfaaDoorTie.lean); close each card by the builder's one call (the guide's Derived/Test/ToyasCard.lean, 'card_holds'). Laid BY PROGRAM, IN A SANDBOX (cutbox-door.mjs). By AI agents, Wed Nov 11 2026. No macro, syntax, notation, axiom, sorry.
-/
import Derived.Test.YtfepkhlifpbkfaaDoorRows
import GoSem.ClaimSeven
namespace Go.Proofs.YtfepkhlifpbkfaaDoor
namespace Rows

/-- THE TIED CARD OF 'lazaruslaw15.SplitFields'. -/
def splitFieldsCard : Claim7 := { stood := { row := splitFieldsRow, standIns := [], harness := (true, "b9a9a02d3fb80592dd98a7c30c8910e1f5bfc2cd0ac65d93f6be3d055cccb612"), looks := false }, kinds := [], alts := [], laidByText := true, laidKinds := [.data, .pinned], laidTests := true, laidLooks := .later }
def SplitFieldsCardSaid : Prop := Claim7.holds Tryd.pinned (.plain (OpenSpec.ofChange splitFieldsSpec)) splitFieldsCard

/-- THE TIED CARD OF 'lazaruslaw15.SplitQuote'. -/
def splitQuoteCard : Claim7 := { stood := { row := splitQuoteRow, standIns := [], harness := (true, "b9a9a02d3fb80592dd98a7c30c8910e1f5bfc2cd0ac65d93f6be3d055cccb612"), looks := false }, kinds := [], alts := [], laidByText := true, laidKinds := [.data, .pinned], laidTests := true, laidLooks := .later }
def SplitQuoteCardSaid : Prop := Claim7.holds Tryd.pinned (.plain (OpenSpec.ofChange splitQuoteSpec)) splitQuoteCard

/-- THE SECOND FORM's CARD OF 'lazaruslaw15.SplitFields'. -/
def splitFieldsUptoCard : Claim7 := { stood := { row := splitFieldsUptoRow, standIns := [], harness := (true, "b9a9a02d3fb80592dd98a7c30c8910e1f5bfc2cd0ac65d93f6be3d055cccb612"), looks := false }, kinds := [], alts := [], laidByText := true, laidKinds := [.data, .pinned], laidTests := true, laidLooks := .later }
def SplitFieldsUptoCardSaid : Prop := Claim7.holds Tryd.pinned (.plain (OpenSpec.upto splitFieldsSpec)) splitFieldsUptoCard

/-- THE SECOND FORM's CARD OF 'lazaruslaw15.SplitQuote'. -/
def splitQuoteUptoCard : Claim7 := { stood := { row := splitQuoteUptoRow, standIns := [], harness := (true, "b9a9a02d3fb80592dd98a7c30c8910e1f5bfc2cd0ac65d93f6be3d055cccb612"), looks := false }, kinds := [], alts := [], laidByText := true, laidKinds := [.data, .pinned], laidTests := true, laidLooks := .later }
def SplitQuoteUptoCardSaid : Prop := Claim7.holds Tryd.pinned (.plain (OpenSpec.upto splitQuoteSpec)) splitQuoteUptoCard
end Rows
end Go.Proofs.YtfepkhlifpbkfaaDoor
