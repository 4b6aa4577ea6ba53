/-
  DERIVED. GIVEN WITH THE SEED: THE CARDS: each row of YtloaalapkmbgeaaDoorRows.lean that lists a variable, with what it lists TIED to the program's text (the seventh form; the later family's looks); each row that meets fmt, with fmt's text TOLD by the authors' own Lean function (tested against real Go, not proved from fmt's source: count such statements apart). THE CARD IS WHAT COUNTS. Prove the row's statement (the work); the ties are given (YtloaalapkmbgeaaDoorTie.lean); close each card by the builder's one call (the guide's Derived/Test/ToyasCard.lean, 'card_holds'). Laid BY PROGRAM, IN A SANDBOX (cutbox-door.mjs). By AI agents, Wed Nov 11 2026. No macro, syntax, notation, axiom, sorry.
-/
import Derived.Test.YtloaalapkmbgeaaDoorRows
import GoSem.ClaimSeven
namespace Go.Proofs.YtloaalapkmbgeaaDoor
namespace Rows

/-- THE TIED CARD OF 'lazaruslaw9.TreeIs'. -/
def treeIsCard : Claim7 := { stood := { row := treeIsRow, standIns := [], harness := (true, "82c994b7518e5743ec244490affa5f7432d791b3532af8f45a161cb4d30d9fd7"), looks := false }, kinds := [], alts := [], laidByText := true, laidKinds := [.data, .data, .pinned], laidTests := true, laidLooks := .later }
def TreeIsCardSaid : Prop := Claim7.holds Tryd.pinned (.plain (OpenSpec.ofChange treeIsSpec)) treeIsCard

/-- THE TIED CARD OF 'lazaruslaw9.TreeReserved'. -/
def treeReservedCard : Claim7 := { stood := { row := treeReservedRow, standIns := [], harness := (true, "82c994b7518e5743ec244490affa5f7432d791b3532af8f45a161cb4d30d9fd7"), looks := false }, kinds := [], alts := [], laidByText := true, laidKinds := [.data], laidTests := true, laidLooks := .later }
def TreeReservedCardSaid : Prop := Claim7.holds Tryd.pinned (.plain (OpenSpec.ofChange treeReservedSpec)) treeReservedCard

/-- THE TIED CARD OF 'lazaruslaw9.TreeWords'. -/
def treeWordsCard : Claim7 := { stood := { row := treeWordsRow, standIns := [], harness := (true, "82c994b7518e5743ec244490affa5f7432d791b3532af8f45a161cb4d30d9fd7"), looks := false }, kinds := [], alts := [], laidByText := true, laidKinds := [.data], laidTests := true, laidLooks := .later }
def TreeWordsCardSaid : Prop := Claim7.holds Tryd.pinned (.plain (OpenSpec.ofChange treeWordsSpec)) treeWordsCard

/-- THE TIED CARD OF 'lazaruslaw9.TreeLexed'. -/
def treeLexedCard : Claim7 := { stood := { row := treeLexedRow, standIns := [], harness := (true, "82c994b7518e5743ec244490affa5f7432d791b3532af8f45a161cb4d30d9fd7"), looks := false }, kinds := [], alts := [], laidByText := true, laidKinds := [.data, .data, .pinned], laidTests := true, laidLooks := .later }
def TreeLexedCardSaid : Prop := Claim7.holds Tryd.pinned (.plain (OpenSpec.ofChange treeLexedSpec)) treeLexedCard

/-- THE SECOND FORM's CARD OF 'lazaruslaw9.TreeIs'. -/
def treeIsUptoCard : Claim7 := { stood := { row := treeIsUptoRow, standIns := [], harness := (true, "82c994b7518e5743ec244490affa5f7432d791b3532af8f45a161cb4d30d9fd7"), looks := false }, kinds := [], alts := [], laidByText := true, laidKinds := [.data, .data, .pinned], laidTests := true, laidLooks := .later }
def TreeIsUptoCardSaid : Prop := Claim7.holds Tryd.pinned (.plain (OpenSpec.upto treeIsSpec)) treeIsUptoCard

/-- THE SECOND FORM's CARD OF 'lazaruslaw9.TreeReserved'. -/
def treeReservedUptoCard : Claim7 := { stood := { row := treeReservedUptoRow, standIns := [], harness := (true, "82c994b7518e5743ec244490affa5f7432d791b3532af8f45a161cb4d30d9fd7"), looks := false }, kinds := [], alts := [], laidByText := true, laidKinds := [.data], laidTests := true, laidLooks := .later }
def TreeReservedUptoCardSaid : Prop := Claim7.holds Tryd.pinned (.plain (OpenSpec.upto treeReservedSpec)) treeReservedUptoCard

/-- THE SECOND FORM's CARD OF 'lazaruslaw9.TreeWords'. -/
def treeWordsUptoCard : Claim7 := { stood := { row := treeWordsUptoRow, standIns := [], harness := (true, "82c994b7518e5743ec244490affa5f7432d791b3532af8f45a161cb4d30d9fd7"), looks := false }, kinds := [], alts := [], laidByText := true, laidKinds := [.data], laidTests := true, laidLooks := .later }
def TreeWordsUptoCardSaid : Prop := Claim7.holds Tryd.pinned (.plain (OpenSpec.upto treeWordsSpec)) treeWordsUptoCard

/-- THE SECOND FORM's CARD OF 'lazaruslaw9.TreeLexed'. -/
def treeLexedUptoCard : Claim7 := { stood := { row := treeLexedUptoRow, standIns := [], harness := (true, "82c994b7518e5743ec244490affa5f7432d791b3532af8f45a161cb4d30d9fd7"), looks := false }, kinds := [], alts := [], laidByText := true, laidKinds := [.data, .data, .pinned], laidTests := true, laidLooks := .later }
def TreeLexedUptoCardSaid : Prop := Claim7.holds Tryd.pinned (.plain (OpenSpec.upto treeLexedSpec)) treeLexedUptoCard
end Rows
end Go.Proofs.YtloaalapkmbgeaaDoor
