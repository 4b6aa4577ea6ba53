/-
  DERIVED. GIVEN WITH THE SEED: THE CARDS: each row of YtpgmlbdfmcbgoaaDoorRows.lean that lists a variable, with what it lists TIED to the program's text (the seventh form; the later family's looks); each row that meets fmt, with fmt's text TOLD by the authors' own Lean function (tested against real Go, not proved from fmt's source: count such statements apart). THE CARD IS WHAT COUNTS. Prove the row's statement (the work); the ties are given (YtpgmlbdfmcbgoaaDoorTie.lean); close each card by the builder's one call (the guide's Derived/Test/ToyasCard.lean, 'card_holds'). Laid BY PROGRAM, IN A SANDBOX (cutbox-door.mjs). By AI agents, Wed Nov 11 2026. No macro, syntax, notation, axiom, sorry.
-/
import Derived.Test.YtpgmlbdfmcbgoaaDoorRows
import GoSem.ClaimSeven
namespace Go.Proofs.YtpgmlbdfmcbgoaaDoor
namespace Rows

/-- THE TIED CARD OF 'lazaruslaw13.GlobSelf'. -/
def globSelfCard : Claim7 := { stood := { row := globSelfRow, standIns := [], harness := (true, "d914eb3faab6f912ef2b1de8164cfcb7fa34514d0f5d4ce335b643a34a35ca3b"), looks := false }, kinds := [], alts := [], laidByText := true, laidKinds := [.data, .pinned], laidTests := true, laidLooks := .later }
def GlobSelfCardSaid : Prop := Claim7.holds Tryd.pinned (.plain (OpenSpec.ofChange globSelfSpec)) globSelfCard

/-- THE TIED CARD OF 'lazaruslaw13.GlobStar'. -/
def globStarCard : Claim7 := { stood := { row := globStarRow, standIns := [], harness := (true, "d914eb3faab6f912ef2b1de8164cfcb7fa34514d0f5d4ce335b643a34a35ca3b"), looks := false }, kinds := [], alts := [], laidByText := true, laidKinds := [.data, .pinned], laidTests := true, laidLooks := .later }
def GlobStarCardSaid : Prop := Claim7.holds Tryd.pinned (.plain (OpenSpec.ofChange globStarSpec)) globStarCard

/-- THE SECOND FORM's CARD OF 'lazaruslaw13.GlobSelf'. -/
def globSelfUptoCard : Claim7 := { stood := { row := globSelfUptoRow, standIns := [], harness := (true, "d914eb3faab6f912ef2b1de8164cfcb7fa34514d0f5d4ce335b643a34a35ca3b"), looks := false }, kinds := [], alts := [], laidByText := true, laidKinds := [.data, .pinned], laidTests := true, laidLooks := .later }
def GlobSelfUptoCardSaid : Prop := Claim7.holds Tryd.pinned (.plain (OpenSpec.upto globSelfSpec)) globSelfUptoCard

/-- THE SECOND FORM's CARD OF 'lazaruslaw13.GlobStar'. -/
def globStarUptoCard : Claim7 := { stood := { row := globStarUptoRow, standIns := [], harness := (true, "d914eb3faab6f912ef2b1de8164cfcb7fa34514d0f5d4ce335b643a34a35ca3b"), looks := false }, kinds := [], alts := [], laidByText := true, laidKinds := [.data, .pinned], laidTests := true, laidLooks := .later }
def GlobStarUptoCardSaid : Prop := Claim7.holds Tryd.pinned (.plain (OpenSpec.upto globStarSpec)) globStarUptoCard
end Rows
end Go.Proofs.YtpgmlbdfmcbgoaaDoor
