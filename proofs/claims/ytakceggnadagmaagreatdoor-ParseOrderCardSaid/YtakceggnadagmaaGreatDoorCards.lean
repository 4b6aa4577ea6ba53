/-
  DERIVED. GIVEN WITH THE SEED: THE CARDS: each row of YtakceggnadagmaaGreatDoorRows.lean that lists a variable, with what it lists TIED to the program's text (the seventh form; the later family's looks); each row that meets fmt, with fmt's text TOLD by the authors' own Lean function (tested against real Go, not proved from fmt's source: count such statements apart). THE CARD IS WHAT COUNTS. Prove the row's statement (the work); the ties are given (YtakceggnadagmaaGreatDoorTie.lean); close each card by the builder's one call (the guide's Derived/Test/ToyasCard.lean, 'card_holds'). Laid BY PROGRAM, IN A SANDBOX (cutbox-door.mjs). By AI agents, Wed Nov 11 2026. No macro, syntax, notation, axiom, sorry.
-/
import Derived.Test.YtakceggnadagmaaGreatDoorRows
import GoSem.ClaimSeven
namespace Go.Proofs.YtakceggnadagmaaGreatDoor
namespace Rows

/-- THE TIED CARD OF 'lazaruslaw10.ParseShown'. -/
def parseShownCard : Claim7 := { stood := { row := parseShownRow, standIns := [], harness := (true, "045189356cd49b8024cd1454cd6feeea7d1ad78f3e7f002aec3a4a50222a32dc"), looks := false }, kinds := [], alts := [], laidByText := true, laidKinds := [.data, .data, .pinned], laidTests := true, laidLooks := .later }
def ParseShownCardSaid : Prop := Claim7.holds Tryz.pinned (.plain (OpenSpec.ofChange parseShownSpec)) parseShownCard

/-- THE TIED CARD OF 'lazaruslaw10.ParseOrder'. -/
def parseOrderCard : Claim7 := { stood := { row := parseOrderRow, standIns := [], harness := (true, "045189356cd49b8024cd1454cd6feeea7d1ad78f3e7f002aec3a4a50222a32dc"), looks := false }, kinds := [], alts := [], laidByText := true, laidKinds := [.data, .data, .pinned], laidTests := true, laidLooks := .later }
def ParseOrderCardSaid : Prop := Claim7.holds Tryz.pinned (.plain (OpenSpec.ofChange parseOrderSpec)) parseOrderCard

/-- THE TIED CARD OF 'lazaruslaw10.ParseOdd'. -/
def parseOddCard : Claim7 := { stood := { row := parseOddRow, standIns := [], harness := (true, "045189356cd49b8024cd1454cd6feeea7d1ad78f3e7f002aec3a4a50222a32dc"), looks := false }, kinds := [], alts := [], laidByText := true, laidKinds := [.data], laidTests := true, laidLooks := .later }
def ParseOddCardSaid : Prop := Claim7.holds Tryz.pinned (.plain (OpenSpec.ofChange parseOddSpec)) parseOddCard

/-- THE TIED CARD OF 'lazaruslaw10.ParseDeep'. -/
def parseDeepCard : Claim7 := { stood := { row := parseDeepRow, standIns := [], harness := (true, "045189356cd49b8024cd1454cd6feeea7d1ad78f3e7f002aec3a4a50222a32dc"), looks := false }, kinds := [], alts := [], laidByText := true, laidKinds := [.data], laidTests := true, laidLooks := .later }
def ParseDeepCardSaid : Prop := Claim7.holds Tryz.pinned (.plain (OpenSpec.ofChange parseDeepSpec)) parseDeepCard

/-- THE TIED CARD OF 'lazaruslaw10.ParseLines'. -/
def parseLinesCard : Claim7 := { stood := { row := parseLinesRow, standIns := [], harness := (true, "045189356cd49b8024cd1454cd6feeea7d1ad78f3e7f002aec3a4a50222a32dc"), looks := false }, kinds := [], alts := [], laidByText := true, laidKinds := [.data, .data, .pinned], laidTests := true, laidLooks := .later }
def ParseLinesCardSaid : Prop := Claim7.holds Tryz.pinned (.plain (OpenSpec.ofChange parseLinesSpec)) parseLinesCard

/-- THE TIED CARD OF 'lazaruslaw10.ParseGroup'. -/
def parseGroupCard : Claim7 := { stood := { row := parseGroupRow, standIns := [], harness := (true, "045189356cd49b8024cd1454cd6feeea7d1ad78f3e7f002aec3a4a50222a32dc"), looks := false }, kinds := [], alts := [], laidByText := true, laidKinds := [.data, .data, .pinned], laidTests := true, laidLooks := .later }
def ParseGroupCardSaid : Prop := Claim7.holds Tryz.pinned (.plain (OpenSpec.ofChange parseGroupSpec)) parseGroupCard

/-- THE SECOND FORM's CARD OF 'lazaruslaw10.ParseShown'. -/
def parseShownUptoCard : Claim7 := { stood := { row := parseShownUptoRow, standIns := [], harness := (true, "045189356cd49b8024cd1454cd6feeea7d1ad78f3e7f002aec3a4a50222a32dc"), looks := false }, kinds := [], alts := [], laidByText := true, laidKinds := [.data, .data, .pinned], laidTests := true, laidLooks := .later }
def ParseShownUptoCardSaid : Prop := Claim7.holds Tryz.pinned (.plain (OpenSpec.upto parseShownSpec)) parseShownUptoCard

/-- THE SECOND FORM's CARD OF 'lazaruslaw10.ParseOrder'. -/
def parseOrderUptoCard : Claim7 := { stood := { row := parseOrderUptoRow, standIns := [], harness := (true, "045189356cd49b8024cd1454cd6feeea7d1ad78f3e7f002aec3a4a50222a32dc"), looks := false }, kinds := [], alts := [], laidByText := true, laidKinds := [.data, .data, .pinned], laidTests := true, laidLooks := .later }
def ParseOrderUptoCardSaid : Prop := Claim7.holds Tryz.pinned (.plain (OpenSpec.upto parseOrderSpec)) parseOrderUptoCard

/-- THE SECOND FORM's CARD OF 'lazaruslaw10.ParseOdd'. -/
def parseOddUptoCard : Claim7 := { stood := { row := parseOddUptoRow, standIns := [], harness := (true, "045189356cd49b8024cd1454cd6feeea7d1ad78f3e7f002aec3a4a50222a32dc"), looks := false }, kinds := [], alts := [], laidByText := true, laidKinds := [.data], laidTests := true, laidLooks := .later }
def ParseOddUptoCardSaid : Prop := Claim7.holds Tryz.pinned (.plain (OpenSpec.upto parseOddSpec)) parseOddUptoCard

/-- THE SECOND FORM's CARD OF 'lazaruslaw10.ParseDeep'. -/
def parseDeepUptoCard : Claim7 := { stood := { row := parseDeepUptoRow, standIns := [], harness := (true, "045189356cd49b8024cd1454cd6feeea7d1ad78f3e7f002aec3a4a50222a32dc"), looks := false }, kinds := [], alts := [], laidByText := true, laidKinds := [.data], laidTests := true, laidLooks := .later }
def ParseDeepUptoCardSaid : Prop := Claim7.holds Tryz.pinned (.plain (OpenSpec.upto parseDeepSpec)) parseDeepUptoCard

/-- THE SECOND FORM's CARD OF 'lazaruslaw10.ParseLines'. -/
def parseLinesUptoCard : Claim7 := { stood := { row := parseLinesUptoRow, standIns := [], harness := (true, "045189356cd49b8024cd1454cd6feeea7d1ad78f3e7f002aec3a4a50222a32dc"), looks := false }, kinds := [], alts := [], laidByText := true, laidKinds := [.data, .data, .pinned], laidTests := true, laidLooks := .later }
def ParseLinesUptoCardSaid : Prop := Claim7.holds Tryz.pinned (.plain (OpenSpec.upto parseLinesSpec)) parseLinesUptoCard

/-- THE SECOND FORM's CARD OF 'lazaruslaw10.ParseGroup'. -/
def parseGroupUptoCard : Claim7 := { stood := { row := parseGroupUptoRow, standIns := [], harness := (true, "045189356cd49b8024cd1454cd6feeea7d1ad78f3e7f002aec3a4a50222a32dc"), looks := false }, kinds := [], alts := [], laidByText := true, laidKinds := [.data, .data, .pinned], laidTests := true, laidLooks := .later }
def ParseGroupUptoCardSaid : Prop := Claim7.holds Tryz.pinned (.plain (OpenSpec.upto parseGroupSpec)) parseGroupUptoCard
end Rows
end Go.Proofs.YtakceggnadagmaaGreatDoor
