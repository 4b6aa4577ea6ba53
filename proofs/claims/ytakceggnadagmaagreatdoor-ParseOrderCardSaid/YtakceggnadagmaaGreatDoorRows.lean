/-
  NARROWER THAN 'FOR EVERY INPUT', by the rows' own cells (each row's printed sentence says how): ParseShown: loops, laid · ParseOrder: laid · ParseOdd: laid · ParseDeep: laid · ParseLines: laid · ParseGroup: laid.
  DERIVED. THE GIVEN ROWS OF THIS SEAT. 6 by the template 'for every input the law returns true; each argument reads behind the call as it read before'; 0 by the template 'total and deterministic' (their statements: YtakceggnadagmaaGreatDoorTotals.lean).
  GIVEN WITH THE SEED: the statements are not yours to turn. If you find one false, say at which input.
  Laid BY PROGRAM, IN A SANDBOX (cutbox-rows.mjs): the forced cells as the released guide's own fill.sh prints them over the translation f19ba377bc9f1808… (all of the seat's roots in one cut). By AI agents, Wed Nov 11 2026. No macro, syntax, notation, axiom, sorry.
-/
import Derived.Test.YtakceggnadagmaaGreatDoorChecked
import GoSem.PinnedTables
import GoSem.Claim
import GoSem.ClaimJoined
import GoSem.ClaimMapViews
import Derived.JoinedTies
import Derived.KernelRfl
namespace Go.Proofs.YtakceggnadagmaaGreatDoor
/- THE CELL 'sum', in the pinned program and in every row, IS THE sha256 OF THE DUMP (.gsa) THAT YtakceggnadagmaaGreatDoorProg.lean LOADS. Nothing in Lean hashes anything: it is a label: what it is worth is what the hold of that sum in a sandbox is worth. -/
noncomputable def Tryz.pinned : Pinned := { name := "ytakceggnadagmaagreatdoor", sum := "f19ba377bc9f18083bdf3b086ce0638b7544b75a43aef42baebe34a948f9b0df", checked := Tryz.checked }
namespace Rows
def none {H : Type} : Left H := { results := [], args := [] }

/- WHAT THE LISTED PACKAGE-LEVEL VARIABLES READ AS WHEN THE CALL BEGINS. Each datum BY PROGRAM (the guide's laid-datum.mjs) off the statement by which the dump's own 'gosem.cut.vars' lays the variable. In a bare row this is a premise. The card (YtakceggnadagmaaGreatDoorCards.lean) ties it to the program's text. -/
def laid_unicode_utf8_acceptRanges {H : Type} : DataW H := .agg [.agg [.lit (.int .u8 128), .lit (.int .u8 191)], .agg [.lit (.int .u8 160), .lit (.int .u8 191)], .agg [.lit (.int .u8 128), .lit (.int .u8 159)], .agg [.lit (.int .u8 144), .lit (.int .u8 191)], .agg [.lit (.int .u8 128), .lit (.int .u8 143)], .agg [.lit (.int .u8 0), .lit (.int .u8 0)], .agg [.lit (.int .u8 0), .lit (.int .u8 0)], .agg [.lit (.int .u8 0), .lit (.int .u8 0)], .agg [.lit (.int .u8 0), .lit (.int .u8 0)], .agg [.lit (.int .u8 0), .lit (.int .u8 0)], .agg [.lit (.int .u8 0), .lit (.int .u8 0)], .agg [.lit (.int .u8 0), .lit (.int .u8 0)], .agg [.lit (.int .u8 0), .lit (.int .u8 0)], .agg [.lit (.int .u8 0), .lit (.int .u8 0)], .agg [.lit (.int .u8 0), .lit (.int .u8 0)], .agg [.lit (.int .u8 0), .lit (.int .u8 0)]]
def laid_lazarus_lex_signs {H : Type} : DataW H := .agg [.lit (.string [38, 38]), .lit (.string [124, 124]), .lit (.string [59, 59]), .lit (.string [62, 62]), .lit (.string [59]), .lit (.string [124]), .lit (.string [40]), .lit (.string [41]), .lit (.string [62]), .lit (.string [60]), .lit (.string [10])]
/-- One of Go's own tables, pinned by name: the form's constant. -/
def laid_unicode_utf8_first : DataW Unit := Go.Pinned.utf8First

/-- 'lazaruslaw10.ParseShown': WHATEVER THE INPUT: true; the input reads as it did. -/
def parseShownSpec : ChangeSpec := { name := "parseShown", fn := fun _ => fun
  | [d] => { results := [.lit (.bool true)], args := [d] }
  | _ => none }
def parseShownRow : OpenClaim := { program := "ytakceggnadagmaagreatdoor", sum := "f19ba377bc9f18083bdf3b086ce0638b7544b75a43aef42baebe34a948f9b0df", func := "lazarus/lazaruslaw10.ParseShown", spec := "parseShown", inPlace := ["internal/abi.NoEscape", "internal/bytealg.IndexByteString", "internal/bytealg.IndexString"], unfollowed := true, recurses := true, named := ["unicode/utf8.first", "unicode/utf8.acceptRanges", "lazarus/lex.signs", "internal/bytealg.MaxLen"], loops := true, apart := false, laid := [("unicode/utf8.acceptRanges", laid_unicode_utf8_acceptRanges), ("lazarus/lex.signs", laid_lazarus_lex_signs), ("unicode/utf8.first", laid_unicode_utf8_first)] }
def ParseShownSaid : Prop := parseShownRow.holds Tryz.pinned (OpenSpec.ofChange parseShownSpec)

/-- ITS FALSE NEIGHBOUR: 'it returns false'. Refute it at one input. -/
def parseShownWrong : ChangeSpec := { name := "parseShown", fn := fun _ => fun
  | [d] => { results := [.lit (.bool false)], args := [d] }
  | _ => none }
def ParseShownWrongFalsely : Prop := parseShownRow.holds Tryz.pinned (OpenSpec.ofChange parseShownWrong)

/-- 'lazaruslaw10.ParseOrder': WHATEVER THE INPUT: true; the input reads as it did. -/
def parseOrderSpec : ChangeSpec := { name := "parseOrder", fn := fun _ => fun
  | [d] => { results := [.lit (.bool true)], args := [d] }
  | _ => none }
def parseOrderRow : OpenClaim := { program := "ytakceggnadagmaagreatdoor", sum := "f19ba377bc9f18083bdf3b086ce0638b7544b75a43aef42baebe34a948f9b0df", func := "lazarus/lazaruslaw10.ParseOrder", spec := "parseOrder", inPlace := ["internal/abi.NoEscape", "internal/bytealg.IndexByteString", "internal/bytealg.IndexString"], unfollowed := true, recurses := true, named := ["lazarus/lex.signs", "internal/bytealg.MaxLen", "unicode/utf8.first", "unicode/utf8.acceptRanges"], apart := false, laid := [("unicode/utf8.acceptRanges", laid_unicode_utf8_acceptRanges), ("lazarus/lex.signs", laid_lazarus_lex_signs), ("unicode/utf8.first", laid_unicode_utf8_first)] }
def ParseOrderSaid : Prop := parseOrderRow.holds Tryz.pinned (OpenSpec.ofChange parseOrderSpec)

/-- ITS FALSE NEIGHBOUR: 'it returns false'. Refute it at one input. -/
def parseOrderWrong : ChangeSpec := { name := "parseOrder", fn := fun _ => fun
  | [d] => { results := [.lit (.bool false)], args := [d] }
  | _ => none }
def ParseOrderWrongFalsely : Prop := parseOrderRow.holds Tryz.pinned (OpenSpec.ofChange parseOrderWrong)

/-- 'lazaruslaw10.ParseOdd': WHATEVER THE INPUT: true; the input reads as it did. -/
def parseOddSpec : ChangeSpec := { name := "parseOdd", fn := fun _ => fun
  | [d] => { results := [.lit (.bool true)], args := [d] }
  | _ => none }
def parseOddRow : OpenClaim := { program := "ytakceggnadagmaagreatdoor", sum := "f19ba377bc9f18083bdf3b086ce0638b7544b75a43aef42baebe34a948f9b0df", func := "lazarus/lazaruslaw10.ParseOdd", spec := "parseOdd", inPlace := ["internal/abi.NoEscape", "internal/bytealg.IndexByteString", "internal/bytealg.IndexString"], unfollowed := true, recurses := true, named := ["lazarus/lex.signs", "internal/bytealg.MaxLen"], apart := false, laid := [("lazarus/lex.signs", laid_lazarus_lex_signs)] }
def ParseOddSaid : Prop := parseOddRow.holds Tryz.pinned (OpenSpec.ofChange parseOddSpec)

/-- ITS FALSE NEIGHBOUR: 'it returns false'. Refute it at one input. -/
def parseOddWrong : ChangeSpec := { name := "parseOdd", fn := fun _ => fun
  | [d] => { results := [.lit (.bool false)], args := [d] }
  | _ => none }
def ParseOddWrongFalsely : Prop := parseOddRow.holds Tryz.pinned (OpenSpec.ofChange parseOddWrong)

/-- 'lazaruslaw10.ParseDeep': WHATEVER THE INPUT: true; the input reads as it did. -/
def parseDeepSpec : ChangeSpec := { name := "parseDeep", fn := fun _ => fun
  | [d1, d2] => { results := [.lit (.bool true)], args := [d1, d2] }
  | _ => none }
def parseDeepRow : OpenClaim := { program := "ytakceggnadagmaagreatdoor", sum := "f19ba377bc9f18083bdf3b086ce0638b7544b75a43aef42baebe34a948f9b0df", func := "lazarus/lazaruslaw10.ParseDeep", spec := "parseDeep", inPlace := ["internal/abi.NoEscape", "internal/bytealg.IndexByteString", "internal/bytealg.IndexString"], unfollowed := true, recurses := true, named := ["lazarus/lex.signs", "internal/bytealg.MaxLen"], apart := false, laid := [("lazarus/lex.signs", laid_lazarus_lex_signs)] }
def ParseDeepSaid : Prop := parseDeepRow.holds Tryz.pinned (OpenSpec.ofChange parseDeepSpec)

/-- ITS FALSE NEIGHBOUR: 'it returns false'. Refute it at one input. -/
def parseDeepWrong : ChangeSpec := { name := "parseDeep", fn := fun _ => fun
  | [d1, d2] => { results := [.lit (.bool false)], args := [d1, d2] }
  | _ => none }
def ParseDeepWrongFalsely : Prop := parseDeepRow.holds Tryz.pinned (OpenSpec.ofChange parseDeepWrong)

/-- 'lazaruslaw10.ParseLines': WHATEVER THE INPUT: true; the input reads as it did. -/
def parseLinesSpec : ChangeSpec := { name := "parseLines", fn := fun _ => fun
  | [d1, d2] => { results := [.lit (.bool true)], args := [d1, d2] }
  | _ => none }
def parseLinesRow : OpenClaim := { program := "ytakceggnadagmaagreatdoor", sum := "f19ba377bc9f18083bdf3b086ce0638b7544b75a43aef42baebe34a948f9b0df", func := "lazarus/lazaruslaw10.ParseLines", spec := "parseLines", inPlace := ["internal/abi.NoEscape", "internal/bytealg.IndexByteString", "internal/bytealg.IndexString"], unfollowed := true, recurses := true, named := ["unicode/utf8.first", "unicode/utf8.acceptRanges", "lazarus/lex.signs", "internal/bytealg.MaxLen"], apart := false, laid := [("unicode/utf8.acceptRanges", laid_unicode_utf8_acceptRanges), ("lazarus/lex.signs", laid_lazarus_lex_signs), ("unicode/utf8.first", laid_unicode_utf8_first)] }
def ParseLinesSaid : Prop := parseLinesRow.holds Tryz.pinned (OpenSpec.ofChange parseLinesSpec)

/-- ITS FALSE NEIGHBOUR: 'it returns false'. Refute it at one input. -/
def parseLinesWrong : ChangeSpec := { name := "parseLines", fn := fun _ => fun
  | [d1, d2] => { results := [.lit (.bool false)], args := [d1, d2] }
  | _ => none }
def ParseLinesWrongFalsely : Prop := parseLinesRow.holds Tryz.pinned (OpenSpec.ofChange parseLinesWrong)

/-- 'lazaruslaw10.ParseGroup': WHATEVER THE INPUT: true; the input reads as it did. -/
def parseGroupSpec : ChangeSpec := { name := "parseGroup", fn := fun _ => fun
  | [d1, d2] => { results := [.lit (.bool true)], args := [d1, d2] }
  | _ => none }
def parseGroupRow : OpenClaim := { program := "ytakceggnadagmaagreatdoor", sum := "f19ba377bc9f18083bdf3b086ce0638b7544b75a43aef42baebe34a948f9b0df", func := "lazarus/lazaruslaw10.ParseGroup", spec := "parseGroup", inPlace := ["internal/abi.NoEscape", "internal/bytealg.IndexByteString", "internal/bytealg.IndexString"], unfollowed := true, recurses := true, named := ["unicode/utf8.first", "unicode/utf8.acceptRanges", "lazarus/lex.signs", "internal/bytealg.MaxLen"], apart := false, laid := [("unicode/utf8.acceptRanges", laid_unicode_utf8_acceptRanges), ("lazarus/lex.signs", laid_lazarus_lex_signs), ("unicode/utf8.first", laid_unicode_utf8_first)] }
def ParseGroupSaid : Prop := parseGroupRow.holds Tryz.pinned (OpenSpec.ofChange parseGroupSpec)

/-- ITS FALSE NEIGHBOUR: 'it returns false'. Refute it at one input. -/
def parseGroupWrong : ChangeSpec := { name := "parseGroup", fn := fun _ => fun
  | [d1, d2] => { results := [.lit (.bool false)], args := [d1, d2] }
  | _ => none }
def ParseGroupWrongFalsely : Prop := parseGroupRow.holds Tryz.pinned (OpenSpec.ofChange parseGroupWrong)

/- THE SECOND FORM. 'bulk': how many values and letters a reading holds, each counted each time it is reached (what is shared counts as often as it is met; a slice's spare places count too). A statement '..UptoSaid' is the law's where the arguments, and the package variables that the reading takes, are together of bulk at most 1048576: NARROWER than '..Said'. Prove '..Said' where nothing that the law and all that it calls make is longer than what came in: it says more and counts as full. Else prove '..UptoSaid'. A law counts once. -/
mutual
def uptoBulk {H : Type} : DataW H → Nat
  | .lit (.string bytes) => bytes.length + 1
  | .lit _ => 1
  | .nil => 1
  | .ptr d => uptoBulk d + 1
  | .slice elems spare => uptoBulkAll elems + uptoBulkAll spare + 1
  | .agg parts => uptoBulkAll parts + 1
  | .iface _ d => uptoBulk d + 1
  | .map entries => uptoBulkEntries entries + 1
  | .held _ => 1
def uptoBulkAll {H : Type} : List (DataW H) → Nat
  | [] => 0
  | d :: r => uptoBulk d + uptoBulkAll r
def uptoBulkEntries {H : Type} : List (Lit × DataW H) → Nat
  | [] => 0
  | x :: r => uptoBulkEntry x + uptoBulkEntries r
def uptoBulkEntry {H : Type} : Lit × DataW H → Nat
  | (.string bytes, d) => bytes.length + uptoBulk d + 1
  | (_, d) => uptoBulk d + 1
 end
def uptoSmall : (H : Type) → List (DataW H) → Bool := fun _ ds => decide (uptoBulkAll ds ≤ 1048576)
def OpenSpec.upto (s : _root_.Go.ChangeSpec) : _root_.Go.OpenSpec := { _root_.Go.OpenSpec.ofChange s with cond := some uptoSmall }

/-- 'lazaruslaw10.ParseShown', WHERE WHAT IT READS IS OF BULK AT MOST 1048576: true; the input reads as it did. -/
def parseShownUptoRow : OpenClaim := { program := "ytakceggnadagmaagreatdoor", sum := "f19ba377bc9f18083bdf3b086ce0638b7544b75a43aef42baebe34a948f9b0df", func := "lazarus/lazaruslaw10.ParseShown", spec := "parseShown", inPlace := ["internal/abi.NoEscape", "internal/bytealg.IndexByteString", "internal/bytealg.IndexString"], unfollowed := true, recurses := true, named := ["unicode/utf8.first", "unicode/utf8.acceptRanges", "lazarus/lex.signs", "internal/bytealg.MaxLen"], loops := true, apart := false, laid := [("unicode/utf8.acceptRanges", laid_unicode_utf8_acceptRanges), ("lazarus/lex.signs", laid_lazarus_lex_signs), ("unicode/utf8.first", laid_unicode_utf8_first)], narrowed := true }
def ParseShownUptoSaid : Prop := parseShownUptoRow.holds Tryz.pinned (OpenSpec.upto parseShownSpec)

/-- 'lazaruslaw10.ParseOrder', WHERE WHAT IT READS IS OF BULK AT MOST 1048576: true; the input reads as it did. -/
def parseOrderUptoRow : OpenClaim := { program := "ytakceggnadagmaagreatdoor", sum := "f19ba377bc9f18083bdf3b086ce0638b7544b75a43aef42baebe34a948f9b0df", func := "lazarus/lazaruslaw10.ParseOrder", spec := "parseOrder", inPlace := ["internal/abi.NoEscape", "internal/bytealg.IndexByteString", "internal/bytealg.IndexString"], unfollowed := true, recurses := true, named := ["lazarus/lex.signs", "internal/bytealg.MaxLen", "unicode/utf8.first", "unicode/utf8.acceptRanges"], apart := false, laid := [("unicode/utf8.acceptRanges", laid_unicode_utf8_acceptRanges), ("lazarus/lex.signs", laid_lazarus_lex_signs), ("unicode/utf8.first", laid_unicode_utf8_first)], narrowed := true }
def ParseOrderUptoSaid : Prop := parseOrderUptoRow.holds Tryz.pinned (OpenSpec.upto parseOrderSpec)

/-- 'lazaruslaw10.ParseOdd', WHERE WHAT IT READS IS OF BULK AT MOST 1048576: true; the input reads as it did. -/
def parseOddUptoRow : OpenClaim := { program := "ytakceggnadagmaagreatdoor", sum := "f19ba377bc9f18083bdf3b086ce0638b7544b75a43aef42baebe34a948f9b0df", func := "lazarus/lazaruslaw10.ParseOdd", spec := "parseOdd", inPlace := ["internal/abi.NoEscape", "internal/bytealg.IndexByteString", "internal/bytealg.IndexString"], unfollowed := true, recurses := true, named := ["lazarus/lex.signs", "internal/bytealg.MaxLen"], apart := false, laid := [("lazarus/lex.signs", laid_lazarus_lex_signs)], narrowed := true }
def ParseOddUptoSaid : Prop := parseOddUptoRow.holds Tryz.pinned (OpenSpec.upto parseOddSpec)

/-- 'lazaruslaw10.ParseDeep', WHERE WHAT IT READS IS OF BULK AT MOST 1048576: true; the input reads as it did. -/
def parseDeepUptoRow : OpenClaim := { program := "ytakceggnadagmaagreatdoor", sum := "f19ba377bc9f18083bdf3b086ce0638b7544b75a43aef42baebe34a948f9b0df", func := "lazarus/lazaruslaw10.ParseDeep", spec := "parseDeep", inPlace := ["internal/abi.NoEscape", "internal/bytealg.IndexByteString", "internal/bytealg.IndexString"], unfollowed := true, recurses := true, named := ["lazarus/lex.signs", "internal/bytealg.MaxLen"], apart := false, laid := [("lazarus/lex.signs", laid_lazarus_lex_signs)], narrowed := true }
def ParseDeepUptoSaid : Prop := parseDeepUptoRow.holds Tryz.pinned (OpenSpec.upto parseDeepSpec)

/-- 'lazaruslaw10.ParseLines', WHERE WHAT IT READS IS OF BULK AT MOST 1048576: true; the input reads as it did. -/
def parseLinesUptoRow : OpenClaim := { program := "ytakceggnadagmaagreatdoor", sum := "f19ba377bc9f18083bdf3b086ce0638b7544b75a43aef42baebe34a948f9b0df", func := "lazarus/lazaruslaw10.ParseLines", spec := "parseLines", inPlace := ["internal/abi.NoEscape", "internal/bytealg.IndexByteString", "internal/bytealg.IndexString"], unfollowed := true, recurses := true, named := ["unicode/utf8.first", "unicode/utf8.acceptRanges", "lazarus/lex.signs", "internal/bytealg.MaxLen"], apart := false, laid := [("unicode/utf8.acceptRanges", laid_unicode_utf8_acceptRanges), ("lazarus/lex.signs", laid_lazarus_lex_signs), ("unicode/utf8.first", laid_unicode_utf8_first)], narrowed := true }
def ParseLinesUptoSaid : Prop := parseLinesUptoRow.holds Tryz.pinned (OpenSpec.upto parseLinesSpec)

/-- 'lazaruslaw10.ParseGroup', WHERE WHAT IT READS IS OF BULK AT MOST 1048576: true; the input reads as it did. -/
def parseGroupUptoRow : OpenClaim := { program := "ytakceggnadagmaagreatdoor", sum := "f19ba377bc9f18083bdf3b086ce0638b7544b75a43aef42baebe34a948f9b0df", func := "lazarus/lazaruslaw10.ParseGroup", spec := "parseGroup", inPlace := ["internal/abi.NoEscape", "internal/bytealg.IndexByteString", "internal/bytealg.IndexString"], unfollowed := true, recurses := true, named := ["unicode/utf8.first", "unicode/utf8.acceptRanges", "lazarus/lex.signs", "internal/bytealg.MaxLen"], apart := false, laid := [("unicode/utf8.acceptRanges", laid_unicode_utf8_acceptRanges), ("lazarus/lex.signs", laid_lazarus_lex_signs), ("unicode/utf8.first", laid_unicode_utf8_first)], narrowed := true }
def ParseGroupUptoSaid : Prop := parseGroupUptoRow.holds Tryz.pinned (OpenSpec.upto parseGroupSpec)

end Rows
end Go.Proofs.YtakceggnadagmaaGreatDoor
