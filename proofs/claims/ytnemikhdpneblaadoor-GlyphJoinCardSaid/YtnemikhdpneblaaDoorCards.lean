/-
  DERIVED. GIVEN WITH THE SEED: THE CARDS: each row of YtnemikhdpneblaaDoorRows.lean that lists a variable, with what it lists TIED to the program's text (the seventh form; the later family's looks); each row that meets fmt, with fmt's text TOLD by the authors' own Lean function (tested against real Go, not proved from fmt's source: count such statements apart). THE CARD IS WHAT COUNTS. Prove the row's statement (the work); the ties are given (YtnemikhdpneblaaDoorTie.lean); close each card by the builder's one call (the guide's Derived/Test/ToyasCard.lean, 'card_holds'). Laid BY PROGRAM, IN A SANDBOX (cutbox-door.mjs). By AI agents, Wed Nov 11 2026. No macro, syntax, notation, axiom, sorry.
-/
import Derived.Test.YtnemikhdpneblaaDoorRows
import GoSem.ClaimSeven
namespace Go.Proofs.YtnemikhdpneblaaDoor
namespace Rows

/-- THE TIED CARD OF 'lazaruslaw7.GlyphTells'. -/
def glyphTellsCard : Claim7 := { stood := { row := glyphTellsRow, standIns := [], harness := (true, "f7ac24dc153b1092b429078e2a3aee6e737115e51b8cef02575dc9b115576877"), looks := false }, kinds := [], alts := [], laidByText := true, laidKinds := [.data, .pinned], laidTests := true, laidLooks := .later }
def GlyphTellsCardSaid : Prop := Claim7.holds Tryd.pinned (.plain (OpenSpec.ofChange glyphTellsSpec)) glyphTellsCard

/-- THE TIED CARD OF 'lazaruslaw7.GlyphJoin'. -/
def glyphJoinCard : Claim7 := { stood := { row := glyphJoinRow, standIns := [], harness := (true, "f7ac24dc153b1092b429078e2a3aee6e737115e51b8cef02575dc9b115576877"), looks := false }, kinds := [], alts := [], laidByText := true, laidKinds := [.data, .pinned], laidTests := true, laidLooks := .later }
def GlyphJoinCardSaid : Prop := Claim7.holds Tryd.pinned (.plain (OpenSpec.ofChange glyphJoinSpec)) glyphJoinCard

/-- THE SECOND FORM's CARD OF 'lazaruslaw7.GlyphTells'. -/
def glyphTellsUptoCard : Claim7 := { stood := { row := glyphTellsUptoRow, standIns := [], harness := (true, "f7ac24dc153b1092b429078e2a3aee6e737115e51b8cef02575dc9b115576877"), looks := false }, kinds := [], alts := [], laidByText := true, laidKinds := [.data, .pinned], laidTests := true, laidLooks := .later }
def GlyphTellsUptoCardSaid : Prop := Claim7.holds Tryd.pinned (.plain (OpenSpec.upto glyphTellsSpec)) glyphTellsUptoCard

/-- THE SECOND FORM's CARD OF 'lazaruslaw7.GlyphJoin'. -/
def glyphJoinUptoCard : Claim7 := { stood := { row := glyphJoinUptoRow, standIns := [], harness := (true, "f7ac24dc153b1092b429078e2a3aee6e737115e51b8cef02575dc9b115576877"), looks := false }, kinds := [], alts := [], laidByText := true, laidKinds := [.data, .pinned], laidTests := true, laidLooks := .later }
def GlyphJoinUptoCardSaid : Prop := Claim7.holds Tryd.pinned (.plain (OpenSpec.upto glyphJoinSpec)) glyphJoinUptoCard
end Rows
end Go.Proofs.YtnemikhdpneblaaDoor
