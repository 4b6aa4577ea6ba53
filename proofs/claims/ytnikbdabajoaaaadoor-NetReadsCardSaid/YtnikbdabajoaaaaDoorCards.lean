/-
  DERIVED. GIVEN WITH THE SEED: THE CARDS: each row of YtnikbdabajoaaaaDoorRows.lean that lists a variable, with what it lists TIED to the program's text (the seventh form; the later family's looks); each row that meets fmt, with fmt's text TOLD by the authors' own Lean function (tested against real Go, not proved from fmt's source: count such statements apart). THE CARD IS WHAT COUNTS. Prove the row's statement (the work); the ties are given (YtnikbdabajoaaaaDoorTie.lean); close each card by the builder's one call (the guide's Derived/Test/ToyasCard.lean, 'card_holds'). Laid BY PROGRAM, IN A SANDBOX (cutbox-door.mjs). By AI agents, Wed Nov 11 2026. No macro, syntax, notation, axiom, sorry.
-/
import Derived.Test.YtnikbdabajoaaaaDoorRows
import GoSem.ClaimSeven
namespace Go.Proofs.YtnikbdabajoaaaaDoor
namespace Rows

/-- THE TIED CARD OF 'lazaruslaw1.NetPuts'. -/
def netPutsCard : Claim7 := { stood := { row := netPutsRow, standIns := [], harness := (true, "d235cae2b4eb791f7ca4bc4c8a760069b707add9fc3b82d1a143775ad561547d"), looks := true }, kinds := [], alts := [], laidByText := true, laidKinds := [.data, .data, .data, .sentinel, .sentinel], laidTests := true, laidLooks := .later }
def NetPutsCardSaid : Prop := Claim7.holds Tryd.pinned (.plain (OpenSpec.ofChange netPutsSpec)) netPutsCard

/-- THE TIED CARD OF 'lazaruslaw1.NetReads'. -/
def netReadsCard : Claim7 := { stood := { row := netReadsRow, standIns := [], harness := (true, "d235cae2b4eb791f7ca4bc4c8a760069b707add9fc3b82d1a143775ad561547d"), looks := true }, kinds := [], alts := [], laidByText := true, laidKinds := [.data, .data, .data, .sentinel, .sentinel], laidTests := true, laidLooks := .later }
def NetReadsCardSaid : Prop := Claim7.holds Tryd.pinned (.plain (OpenSpec.ofChange netReadsSpec)) netReadsCard

/-- THE TIED CARD OF 'lazaruslaw1.NetOdd'. -/
def netOddCard : Claim7 := { stood := { row := netOddRow, standIns := [], harness := (true, "d235cae2b4eb791f7ca4bc4c8a760069b707add9fc3b82d1a143775ad561547d"), looks := true }, kinds := [], alts := [], laidByText := true, laidKinds := [.data, .data, .data, .sentinel, .sentinel], laidTests := true, laidLooks := .later }
def NetOddCardSaid : Prop := Claim7.holds Tryd.pinned (.plain (OpenSpec.ofChange netOddSpec)) netOddCard

/-- THE TIED CARD OF 'lazaruslaw1.NetRow'. -/
def netRowCard : Claim7 := { stood := { row := netRowRow, standIns := [], harness := (true, "d235cae2b4eb791f7ca4bc4c8a760069b707add9fc3b82d1a143775ad561547d"), looks := true }, kinds := [], alts := [], laidByText := true, laidKinds := [.data, .data, .data, .sentinel, .sentinel], laidTests := true, laidLooks := .later }
def NetRowCardSaid : Prop := Claim7.holds Tryd.pinned (.plain (OpenSpec.ofChange netRowSpec)) netRowCard

/-- THE TIED CARD OF 'lazaruslaw1.NetCut'. -/
def netCutCard : Claim7 := { stood := { row := netCutRow, standIns := [], harness := (true, "d235cae2b4eb791f7ca4bc4c8a760069b707add9fc3b82d1a143775ad561547d"), looks := true }, kinds := [], alts := [], laidByText := true, laidKinds := [.data, .data, .data, .sentinel, .sentinel], laidTests := true, laidLooks := .later }
def NetCutCardSaid : Prop := Claim7.holds Tryd.pinned (.plain (OpenSpec.ofChange netCutSpec)) netCutCard

/-- THE SECOND FORM's CARD OF 'lazaruslaw1.NetPuts'. -/
def netPutsUptoCard : Claim7 := { stood := { row := netPutsUptoRow, standIns := [], harness := (true, "d235cae2b4eb791f7ca4bc4c8a760069b707add9fc3b82d1a143775ad561547d"), looks := true }, kinds := [], alts := [], laidByText := true, laidKinds := [.data, .data, .data, .sentinel, .sentinel], laidTests := true, laidLooks := .later }
def NetPutsUptoCardSaid : Prop := Claim7.holds Tryd.pinned (.plain (OpenSpec.upto netPutsSpec)) netPutsUptoCard

/-- THE SECOND FORM's CARD OF 'lazaruslaw1.NetReads'. -/
def netReadsUptoCard : Claim7 := { stood := { row := netReadsUptoRow, standIns := [], harness := (true, "d235cae2b4eb791f7ca4bc4c8a760069b707add9fc3b82d1a143775ad561547d"), looks := true }, kinds := [], alts := [], laidByText := true, laidKinds := [.data, .data, .data, .sentinel, .sentinel], laidTests := true, laidLooks := .later }
def NetReadsUptoCardSaid : Prop := Claim7.holds Tryd.pinned (.plain (OpenSpec.upto netReadsSpec)) netReadsUptoCard

/-- THE SECOND FORM's CARD OF 'lazaruslaw1.NetOdd'. -/
def netOddUptoCard : Claim7 := { stood := { row := netOddUptoRow, standIns := [], harness := (true, "d235cae2b4eb791f7ca4bc4c8a760069b707add9fc3b82d1a143775ad561547d"), looks := true }, kinds := [], alts := [], laidByText := true, laidKinds := [.data, .data, .data, .sentinel, .sentinel], laidTests := true, laidLooks := .later }
def NetOddUptoCardSaid : Prop := Claim7.holds Tryd.pinned (.plain (OpenSpec.upto netOddSpec)) netOddUptoCard

/-- THE SECOND FORM's CARD OF 'lazaruslaw1.NetRow'. -/
def netRowUptoCard : Claim7 := { stood := { row := netRowUptoRow, standIns := [], harness := (true, "d235cae2b4eb791f7ca4bc4c8a760069b707add9fc3b82d1a143775ad561547d"), looks := true }, kinds := [], alts := [], laidByText := true, laidKinds := [.data, .data, .data, .sentinel, .sentinel], laidTests := true, laidLooks := .later }
def NetRowUptoCardSaid : Prop := Claim7.holds Tryd.pinned (.plain (OpenSpec.upto netRowSpec)) netRowUptoCard

/-- THE SECOND FORM's CARD OF 'lazaruslaw1.NetCut'. -/
def netCutUptoCard : Claim7 := { stood := { row := netCutUptoRow, standIns := [], harness := (true, "d235cae2b4eb791f7ca4bc4c8a760069b707add9fc3b82d1a143775ad561547d"), looks := true }, kinds := [], alts := [], laidByText := true, laidKinds := [.data, .data, .data, .sentinel, .sentinel], laidTests := true, laidLooks := .later }
def NetCutUptoCardSaid : Prop := Claim7.holds Tryd.pinned (.plain (OpenSpec.upto netCutSpec)) netCutUptoCard
end Rows
end Go.Proofs.YtnikbdabajoaaaaDoor
