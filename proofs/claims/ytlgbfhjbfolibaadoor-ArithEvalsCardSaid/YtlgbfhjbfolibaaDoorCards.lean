/-
  DERIVED. GIVEN WITH THE SEED: THE CARDS: each row of YtlgbfhjbfolibaaDoorRows.lean that lists a variable, with what it lists TIED to the program's text (the seventh form; the later family's looks); each row that meets fmt, with fmt's text TOLD by the authors' own Lean function (tested against real Go, not proved from fmt's source: count such statements apart). THE CARD IS WHAT COUNTS. Prove the row's statement (the work); the ties are given (YtlgbfhjbfolibaaDoorTie.lean); close each card by the builder's one call (the guide's Derived/Test/ToyasCard.lean, 'card_holds'). Laid BY PROGRAM, IN A SANDBOX (cutbox-door.mjs). By AI agents, Wed Nov 11 2026. No macro, syntax, notation, axiom, sorry.
-/
import Derived.Test.YtlgbfhjbfolibaaDoorRows
import GoSem.ClaimSeven
namespace Go.Proofs.YtlgbfhjbfolibaaDoor
namespace Rows

/-- THE TIED CARD OF 'lazaruslaw12.ArithEvals'. -/
def arithEvalsCard : Claim7 := { stood := { row := arithEvalsRow, standIns := [], harness := (true, "494f44cab2125028849f8db313613e7093da1899e5508a3f3218a468bfba3f36"), looks := true }, kinds := [], alts := [], laidByText := true, laidKinds := [.data, .data, .data, .data, .sentinel, .sentinel, .pinned], laidTests := true, laidLooks := .later }
def ArithEvalsCardSaid : Prop := Claim7.holds Tryd.pinned (.plain (OpenSpec.ofChange arithEvalsSpec)) arithEvalsCard

/-- THE TIED CARD OF 'lazaruslaw12.ArithNums'. -/
def arithNumsCard : Claim7 := { stood := { row := arithNumsRow, standIns := [], harness := (true, "494f44cab2125028849f8db313613e7093da1899e5508a3f3218a468bfba3f36"), looks := true }, kinds := [], alts := [], laidByText := true, laidKinds := [.data, .data, .data, .sentinel, .sentinel], laidTests := true, laidLooks := .later }
def ArithNumsCardSaid : Prop := Claim7.holds Tryd.pinned (.plain (OpenSpec.ofChange arithNumsSpec)) arithNumsCard

/-- THE TIED CARD OF 'lazaruslaw12.ArithKnown'. -/
def arithKnownCard : Claim7 := { stood := { row := arithKnownRow, standIns := [], harness := (true, "494f44cab2125028849f8db313613e7093da1899e5508a3f3218a468bfba3f36"), looks := true }, kinds := [], alts := [], laidByText := true, laidKinds := [.data, .data, .data, .sentinel, .sentinel], laidTests := true, laidLooks := .later }
def ArithKnownCardSaid : Prop := Claim7.holds Tryd.pinned (.plain (OpenSpec.ofChange arithKnownSpec)) arithKnownCard

/-- THE TIED CARD OF 'lazaruslaw12.ArithSums'. -/
def arithSumsCard : Claim7 := { stood := { row := arithSumsRow, standIns := [], harness := (true, "494f44cab2125028849f8db313613e7093da1899e5508a3f3218a468bfba3f36"), looks := true }, kinds := [], alts := [], laidByText := true, laidKinds := [.data, .data, .data, .sentinel, .sentinel], laidTests := true, laidLooks := .later }
def ArithSumsCardSaid : Prop := Claim7.holds Tryd.pinned (.plain (OpenSpec.ofChange arithSumsSpec)) arithSumsCard

/-- THE TIED CARD OF 'lazaruslaw12.ArithBlanks'. -/
def arithBlanksCard : Claim7 := { stood := { row := arithBlanksRow, standIns := [], harness := (true, "494f44cab2125028849f8db313613e7093da1899e5508a3f3218a468bfba3f36"), looks := true }, kinds := [], alts := [], laidByText := true, laidKinds := [.data, .data, .data, .sentinel, .sentinel], laidTests := true, laidLooks := .later }
def ArithBlanksCardSaid : Prop := Claim7.holds Tryd.pinned (.plain (OpenSpec.ofChange arithBlanksSpec)) arithBlanksCard

/-- THE SECOND FORM's CARD OF 'lazaruslaw12.ArithEvals'. -/
def arithEvalsUptoCard : Claim7 := { stood := { row := arithEvalsUptoRow, standIns := [], harness := (true, "494f44cab2125028849f8db313613e7093da1899e5508a3f3218a468bfba3f36"), looks := true }, kinds := [], alts := [], laidByText := true, laidKinds := [.data, .data, .data, .data, .sentinel, .sentinel, .pinned], laidTests := true, laidLooks := .later }
def ArithEvalsUptoCardSaid : Prop := Claim7.holds Tryd.pinned (.plain (OpenSpec.upto arithEvalsSpec)) arithEvalsUptoCard

/-- THE SECOND FORM's CARD OF 'lazaruslaw12.ArithNums'. -/
def arithNumsUptoCard : Claim7 := { stood := { row := arithNumsUptoRow, standIns := [], harness := (true, "494f44cab2125028849f8db313613e7093da1899e5508a3f3218a468bfba3f36"), looks := true }, kinds := [], alts := [], laidByText := true, laidKinds := [.data, .data, .data, .sentinel, .sentinel], laidTests := true, laidLooks := .later }
def ArithNumsUptoCardSaid : Prop := Claim7.holds Tryd.pinned (.plain (OpenSpec.upto arithNumsSpec)) arithNumsUptoCard

/-- THE SECOND FORM's CARD OF 'lazaruslaw12.ArithKnown'. -/
def arithKnownUptoCard : Claim7 := { stood := { row := arithKnownUptoRow, standIns := [], harness := (true, "494f44cab2125028849f8db313613e7093da1899e5508a3f3218a468bfba3f36"), looks := true }, kinds := [], alts := [], laidByText := true, laidKinds := [.data, .data, .data, .sentinel, .sentinel], laidTests := true, laidLooks := .later }
def ArithKnownUptoCardSaid : Prop := Claim7.holds Tryd.pinned (.plain (OpenSpec.upto arithKnownSpec)) arithKnownUptoCard

/-- THE SECOND FORM's CARD OF 'lazaruslaw12.ArithSums'. -/
def arithSumsUptoCard : Claim7 := { stood := { row := arithSumsUptoRow, standIns := [], harness := (true, "494f44cab2125028849f8db313613e7093da1899e5508a3f3218a468bfba3f36"), looks := true }, kinds := [], alts := [], laidByText := true, laidKinds := [.data, .data, .data, .sentinel, .sentinel], laidTests := true, laidLooks := .later }
def ArithSumsUptoCardSaid : Prop := Claim7.holds Tryd.pinned (.plain (OpenSpec.upto arithSumsSpec)) arithSumsUptoCard

/-- THE SECOND FORM's CARD OF 'lazaruslaw12.ArithBlanks'. -/
def arithBlanksUptoCard : Claim7 := { stood := { row := arithBlanksUptoRow, standIns := [], harness := (true, "494f44cab2125028849f8db313613e7093da1899e5508a3f3218a468bfba3f36"), looks := true }, kinds := [], alts := [], laidByText := true, laidKinds := [.data, .data, .data, .sentinel, .sentinel], laidTests := true, laidLooks := .later }
def ArithBlanksUptoCardSaid : Prop := Claim7.holds Tryd.pinned (.plain (OpenSpec.upto arithBlanksSpec)) arithBlanksUptoCard
end Rows
end Go.Proofs.YtlgbfhjbfolibaaDoor
