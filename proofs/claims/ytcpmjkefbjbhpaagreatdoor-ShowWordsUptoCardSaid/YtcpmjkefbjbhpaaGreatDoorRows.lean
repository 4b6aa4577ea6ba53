/-
  NARROWER THAN 'FOR EVERY INPUT', by the rows' own cells (each row's printed sentence says how): ParseShown: loops, laid · ParseLines: laid · ParseGroup: laid · ShowTexts: loops, laid · ShowBack: loops, laid · ShowWords: loops, laid.
  DERIVED. THE GIVEN ROWS OF THIS SEAT. 6 by the template 'for every input the law returns true; each argument reads behind the call as it read before'; 0 by the template 'total and deterministic' (their statements: YtcpmjkefbjbhpaaGreatDoorTotals.lean).
  GIVEN WITH THE SEED: the statements are not yours to turn. If you find one false, say at which input.
  Laid BY PROGRAM, IN A SANDBOX (cutbox-rows.mjs): the forced cells as the released guide's own fill.sh prints them over the translation bdd7a54cce3b3589… (all of the seat's roots in one cut). By AI agents, Wed Nov 11 2026. No macro, syntax, notation, axiom, sorry.
-/
import Derived.Test.YtcpmjkefbjbhpaaGreatDoorChecked
import GoSem.PinnedTables
import GoSem.Claim
import GoSem.ClaimJoined
import GoSem.ClaimMapViews
import Derived.JoinedTies
import Derived.KernelRfl
namespace Go.Proofs.YtcpmjkefbjbhpaaGreatDoor
/- THE CELL 'sum', in the pinned program and in every row, IS THE sha256 OF THE DUMP (.gsa) THAT YtcpmjkefbjbhpaaGreatDoorProg.lean LOADS. Nothing in Lean hashes anything: it is a label: what it is worth is what the hold of that sum in a sandbox is worth. -/
noncomputable def Tryz.pinned : Pinned := { name := "ytcpmjkefbjbhpaagreatdoor", sum := "bdd7a54cce3b3589069beb168a2a6c4d238765f7fdd409d35d027cbfa54d8bb6", checked := Tryz.checked }
namespace Rows
def none {H : Type} : Left H := { results := [], args := [] }

/- WHAT THE LISTED PACKAGE-LEVEL VARIABLES READ AS WHEN THE CALL BEGINS. Each datum BY PROGRAM (the guide's laid-datum.mjs) off the statement by which the dump's own 'gosem.cut.vars' lays the variable. In a bare row this is a premise. The card (YtcpmjkefbjbhpaaGreatDoorCards.lean) ties it to the program's text. -/
def laid_unicode_utf8_acceptRanges {H : Type} : DataW H := .agg [.agg [.lit (.int .u8 128), .lit (.int .u8 191)], .agg [.lit (.int .u8 160), .lit (.int .u8 191)], .agg [.lit (.int .u8 128), .lit (.int .u8 159)], .agg [.lit (.int .u8 144), .lit (.int .u8 191)], .agg [.lit (.int .u8 128), .lit (.int .u8 143)], .agg [.lit (.int .u8 0), .lit (.int .u8 0)], .agg [.lit (.int .u8 0), .lit (.int .u8 0)], .agg [.lit (.int .u8 0), .lit (.int .u8 0)], .agg [.lit (.int .u8 0), .lit (.int .u8 0)], .agg [.lit (.int .u8 0), .lit (.int .u8 0)], .agg [.lit (.int .u8 0), .lit (.int .u8 0)], .agg [.lit (.int .u8 0), .lit (.int .u8 0)], .agg [.lit (.int .u8 0), .lit (.int .u8 0)], .agg [.lit (.int .u8 0), .lit (.int .u8 0)], .agg [.lit (.int .u8 0), .lit (.int .u8 0)], .agg [.lit (.int .u8 0), .lit (.int .u8 0)]]
def laid_lazarus_lex_signs {H : Type} : DataW H := .agg [.lit (.string [38, 38]), .lit (.string [124, 124]), .lit (.string [59, 59]), .lit (.string [62, 62]), .lit (.string [59]), .lit (.string [124]), .lit (.string [40]), .lit (.string [41]), .lit (.string [62]), .lit (.string [60]), .lit (.string [10])]
/-- One of Go's own tables, pinned by name: the form's constant. -/
def laid_unicode_utf8_first : DataW Unit := Go.Pinned.utf8First
def laid_lazarus_tree_shapes {H : Type} : DataW H := .agg [.agg [.lit (.string [99, 109, 100]), .agg [.lit (.int .i64 0), .lit (.int .i64 0)], .agg [.lit (.int .i64 0), .lit (.int .i64 9223372036854775807)], .lit (.bool false), .lit (.bool false), .lit (.bool true), .lit (.bool true)], .agg [.lit (.string [115, 101, 113]), .agg [.lit (.int .i64 2), .lit (.int .i64 9223372036854775807)], .agg [.lit (.int .i64 0), .lit (.int .i64 0)], .lit (.bool false), .lit (.bool false), .lit (.bool false), .lit (.bool false)], .agg [.lit (.string [97, 110, 100]), .agg [.lit (.int .i64 2), .lit (.int .i64 2)], .agg [.lit (.int .i64 0), .lit (.int .i64 0)], .lit (.bool false), .lit (.bool false), .lit (.bool false), .lit (.bool false)], .agg [.lit (.string [111, 114]), .agg [.lit (.int .i64 2), .lit (.int .i64 2)], .agg [.lit (.int .i64 0), .lit (.int .i64 0)], .lit (.bool false), .lit (.bool false), .lit (.bool false), .lit (.bool false)], .agg [.lit (.string [110, 111, 116]), .agg [.lit (.int .i64 1), .lit (.int .i64 1)], .agg [.lit (.int .i64 0), .lit (.int .i64 0)], .lit (.bool false), .lit (.bool false), .lit (.bool false), .lit (.bool false)], .agg [.lit (.string [112, 105, 112, 101]), .agg [.lit (.int .i64 2), .lit (.int .i64 9223372036854775807)], .agg [.lit (.int .i64 0), .lit (.int .i64 0)], .lit (.bool false), .lit (.bool false), .lit (.bool false), .lit (.bool false)], .agg [.lit (.string [105, 102]), .agg [.lit (.int .i64 2), .lit (.int .i64 3)], .agg [.lit (.int .i64 0), .lit (.int .i64 0)], .lit (.bool false), .lit (.bool false), .lit (.bool false), .lit (.bool true)], .agg [.lit (.string [119, 104, 105, 108, 101]), .agg [.lit (.int .i64 2), .lit (.int .i64 2)], .agg [.lit (.int .i64 0), .lit (.int .i64 0)], .lit (.bool false), .lit (.bool false), .lit (.bool false), .lit (.bool true)], .agg [.lit (.string [117, 110, 116, 105, 108]), .agg [.lit (.int .i64 2), .lit (.int .i64 2)], .agg [.lit (.int .i64 0), .lit (.int .i64 0)], .lit (.bool false), .lit (.bool false), .lit (.bool false), .lit (.bool true)], .agg [.lit (.string [102, 111, 114]), .agg [.lit (.int .i64 1), .lit (.int .i64 1)], .agg [.lit (.int .i64 0), .lit (.int .i64 9223372036854775807)], .lit (.bool true), .lit (.bool false), .lit (.bool false), .lit (.bool true)], .agg [.lit (.string [99, 97, 115, 101]), .agg [.lit (.int .i64 0), .lit (.int .i64 9223372036854775807)], .agg [.lit (.int .i64 1), .lit (.int .i64 1)], .lit (.bool false), .lit (.bool true), .lit (.bool false), .lit (.bool true)], .agg [.lit (.string [102, 117, 110]), .agg [.lit (.int .i64 1), .lit (.int .i64 1)], .agg [.lit (.int .i64 0), .lit (.int .i64 0)], .lit (.bool true), .lit (.bool false), .lit (.bool false), .lit (.bool false)], .agg [.lit (.string [103, 114, 111, 117, 112]), .agg [.lit (.int .i64 1), .lit (.int .i64 1)], .agg [.lit (.int .i64 0), .lit (.int .i64 0)], .lit (.bool false), .lit (.bool false), .lit (.bool false), .lit (.bool true)], .agg [.lit (.string [115, 117, 98]), .agg [.lit (.int .i64 1), .lit (.int .i64 1)], .agg [.lit (.int .i64 0), .lit (.int .i64 0)], .lit (.bool false), .lit (.bool false), .lit (.bool false), .lit (.bool true)]]
def laid_lazarus_show_frames {H : Type} : DataW H := .agg [.agg [.lit (.string [115, 101, 113]), .lit (.string []), .lit (.string [59, 32]), .lit (.string [59, 32]), .lit (.string [])], .agg [.lit (.string [97, 110, 100]), .lit (.string []), .lit (.string [32, 38, 38, 32]), .lit (.string []), .lit (.string [])], .agg [.lit (.string [111, 114]), .lit (.string []), .lit (.string [32, 124, 124, 32]), .lit (.string []), .lit (.string [])], .agg [.lit (.string [110, 111, 116]), .lit (.string [33, 32]), .lit (.string []), .lit (.string []), .lit (.string [])], .agg [.lit (.string [112, 105, 112, 101]), .lit (.string []), .lit (.string [32, 124, 32]), .lit (.string [32, 124, 32]), .lit (.string [])], .agg [.lit (.string [105, 102]), .lit (.string [105, 102, 32]), .lit (.string [59, 32, 116, 104, 101, 110, 32]), .lit (.string [59, 32, 101, 108, 115, 101, 32]), .lit (.string [59, 32, 102, 105])], .agg [.lit (.string [119, 104, 105, 108, 101]), .lit (.string [119, 104, 105, 108, 101, 32]), .lit (.string [59, 32, 100, 111, 32]), .lit (.string []), .lit (.string [59, 32, 100, 111, 110, 101])], .agg [.lit (.string [117, 110, 116, 105, 108]), .lit (.string [117, 110, 116, 105, 108, 32]), .lit (.string [59, 32, 100, 111, 32]), .lit (.string []), .lit (.string [59, 32, 100, 111, 110, 101])], .agg [.lit (.string [102, 111, 114]), .lit (.string [59, 32, 100, 111, 32]), .lit (.string []), .lit (.string []), .lit (.string [59, 32, 100, 111, 110, 101])], .agg [.lit (.string [102, 117, 110]), .lit (.string [40, 41, 32]), .lit (.string []), .lit (.string []), .lit (.string [])], .agg [.lit (.string [103, 114, 111, 117, 112]), .lit (.string [123, 32]), .lit (.string []), .lit (.string []), .lit (.string [59, 32, 125])], .agg [.lit (.string [115, 117, 98]), .lit (.string [40, 32]), .lit (.string []), .lit (.string []), .lit (.string [32, 41])]]

/-- 'lazaruslaw10.ParseShown': WHATEVER THE INPUT: true; the input reads as it did. -/
def parseShownSpec : ChangeSpec := { name := "parseShown", fn := fun _ => fun
  | [d] => { results := [.lit (.bool true)], args := [d] }
  | _ => none }
def parseShownRow : OpenClaim := { program := "ytcpmjkefbjbhpaagreatdoor", sum := "bdd7a54cce3b3589069beb168a2a6c4d238765f7fdd409d35d027cbfa54d8bb6", func := "lazarus/lazaruslaw10.ParseShown", spec := "parseShown", inPlace := ["internal/abi.NoEscape", "internal/bytealg.IndexByteString", "internal/bytealg.IndexString"], unfollowed := true, recurses := true, named := ["unicode/utf8.first", "unicode/utf8.acceptRanges", "lazarus/lex.signs", "internal/bytealg.MaxLen"], loops := true, apart := false, laid := [("unicode/utf8.acceptRanges", laid_unicode_utf8_acceptRanges), ("lazarus/lex.signs", laid_lazarus_lex_signs), ("unicode/utf8.first", laid_unicode_utf8_first)] }
def ParseShownSaid : Prop := parseShownRow.holds Tryz.pinned (OpenSpec.ofChange parseShownSpec)

/-- ITS FALSE NEIGHBOUR: 'it returns false'. Refute it at one input. -/
def parseShownWrong : ChangeSpec := { name := "parseShown", fn := fun _ => fun
  | [d] => { results := [.lit (.bool false)], args := [d] }
  | _ => none }
def ParseShownWrongFalsely : Prop := parseShownRow.holds Tryz.pinned (OpenSpec.ofChange parseShownWrong)

/-- 'lazaruslaw10.ParseLines': WHATEVER THE INPUT: true; the input reads as it did. -/
def parseLinesSpec : ChangeSpec := { name := "parseLines", fn := fun _ => fun
  | [d1, d2] => { results := [.lit (.bool true)], args := [d1, d2] }
  | _ => none }
def parseLinesRow : OpenClaim := { program := "ytcpmjkefbjbhpaagreatdoor", sum := "bdd7a54cce3b3589069beb168a2a6c4d238765f7fdd409d35d027cbfa54d8bb6", func := "lazarus/lazaruslaw10.ParseLines", spec := "parseLines", inPlace := ["internal/abi.NoEscape", "internal/bytealg.IndexByteString", "internal/bytealg.IndexString"], unfollowed := true, recurses := true, named := ["unicode/utf8.first", "unicode/utf8.acceptRanges", "lazarus/lex.signs", "internal/bytealg.MaxLen"], apart := false, laid := [("unicode/utf8.acceptRanges", laid_unicode_utf8_acceptRanges), ("lazarus/lex.signs", laid_lazarus_lex_signs), ("unicode/utf8.first", laid_unicode_utf8_first)] }
def ParseLinesSaid : Prop := parseLinesRow.holds Tryz.pinned (OpenSpec.ofChange parseLinesSpec)

/-- ITS FALSE NEIGHBOUR: 'it returns false'. Refute it at one input. -/
def parseLinesWrong : ChangeSpec := { name := "parseLines", fn := fun _ => fun
  | [d1, d2] => { results := [.lit (.bool false)], args := [d1, d2] }
  | _ => none }
def ParseLinesWrongFalsely : Prop := parseLinesRow.holds Tryz.pinned (OpenSpec.ofChange parseLinesWrong)

/-- 'lazaruslaw10.ParseGroup': WHATEVER THE INPUT: true; the input reads as it did. -/
def parseGroupSpec : ChangeSpec := { name := "parseGroup", fn := fun _ => fun
  | [d1, d2] => { results := [.lit (.bool true)], args := [d1, d2] }
  | _ => none }
def parseGroupRow : OpenClaim := { program := "ytcpmjkefbjbhpaagreatdoor", sum := "bdd7a54cce3b3589069beb168a2a6c4d238765f7fdd409d35d027cbfa54d8bb6", func := "lazarus/lazaruslaw10.ParseGroup", spec := "parseGroup", inPlace := ["internal/abi.NoEscape", "internal/bytealg.IndexByteString", "internal/bytealg.IndexString"], unfollowed := true, recurses := true, named := ["unicode/utf8.first", "unicode/utf8.acceptRanges", "lazarus/lex.signs", "internal/bytealg.MaxLen"], apart := false, laid := [("unicode/utf8.acceptRanges", laid_unicode_utf8_acceptRanges), ("lazarus/lex.signs", laid_lazarus_lex_signs), ("unicode/utf8.first", laid_unicode_utf8_first)] }
def ParseGroupSaid : Prop := parseGroupRow.holds Tryz.pinned (OpenSpec.ofChange parseGroupSpec)

/-- ITS FALSE NEIGHBOUR: 'it returns false'. Refute it at one input. -/
def parseGroupWrong : ChangeSpec := { name := "parseGroup", fn := fun _ => fun
  | [d1, d2] => { results := [.lit (.bool false)], args := [d1, d2] }
  | _ => none }
def ParseGroupWrongFalsely : Prop := parseGroupRow.holds Tryz.pinned (OpenSpec.ofChange parseGroupWrong)

/-- 'lazaruslaw11.ShowTexts': WHATEVER THE INPUT: true; the input reads as it did. -/
def showTextsSpec : ChangeSpec := { name := "showTexts", fn := fun _ => fun
  | [d1, d2] => { results := [.lit (.bool true)], args := [d1, d2] }
  | _ => none }
def showTextsRow : OpenClaim := { program := "ytcpmjkefbjbhpaagreatdoor", sum := "bdd7a54cce3b3589069beb168a2a6c4d238765f7fdd409d35d027cbfa54d8bb6", func := "lazarus/lazaruslaw11.ShowTexts", spec := "showTexts", inPlace := ["internal/bytealg.IndexByteString", "internal/bytealg.IndexString", "internal/abi.NoEscape"], unfollowed := true, recurses := true, named := ["unicode/utf8.first", "unicode/utf8.acceptRanges", "lazarus/tree.shapes", "internal/bytealg.MaxLen", "lazarus/show.frames"], loops := true, apart := false, laid := [("unicode/utf8.acceptRanges", laid_unicode_utf8_acceptRanges), ("lazarus/tree.shapes", laid_lazarus_tree_shapes), ("lazarus/show.frames", laid_lazarus_show_frames), ("unicode/utf8.first", laid_unicode_utf8_first)] }
def ShowTextsSaid : Prop := showTextsRow.holds Tryz.pinned (OpenSpec.ofChange showTextsSpec)

/-- ITS FALSE NEIGHBOUR: 'it returns false'. Refute it at one input. -/
def showTextsWrong : ChangeSpec := { name := "showTexts", fn := fun _ => fun
  | [d1, d2] => { results := [.lit (.bool false)], args := [d1, d2] }
  | _ => none }
def ShowTextsWrongFalsely : Prop := showTextsRow.holds Tryz.pinned (OpenSpec.ofChange showTextsWrong)

/-- 'lazaruslaw11.ShowBack': WHATEVER THE INPUT: true; the input reads as it did. -/
def showBackSpec : ChangeSpec := { name := "showBack", fn := fun _ => fun
  | [d] => { results := [.lit (.bool true)], args := [d] }
  | _ => none }
def showBackRow : OpenClaim := { program := "ytcpmjkefbjbhpaagreatdoor", sum := "bdd7a54cce3b3589069beb168a2a6c4d238765f7fdd409d35d027cbfa54d8bb6", func := "lazarus/lazaruslaw11.ShowBack", spec := "showBack", inPlace := ["internal/bytealg.IndexByteString", "internal/bytealg.IndexString", "internal/abi.NoEscape"], unfollowed := true, recurses := true, named := ["unicode/utf8.first", "unicode/utf8.acceptRanges", "lazarus/tree.shapes", "internal/bytealg.MaxLen", "lazarus/show.frames"], loops := true, apart := false, laid := [("unicode/utf8.acceptRanges", laid_unicode_utf8_acceptRanges), ("lazarus/tree.shapes", laid_lazarus_tree_shapes), ("lazarus/show.frames", laid_lazarus_show_frames), ("unicode/utf8.first", laid_unicode_utf8_first)] }
def ShowBackSaid : Prop := showBackRow.holds Tryz.pinned (OpenSpec.ofChange showBackSpec)

/-- ITS FALSE NEIGHBOUR: 'it returns false'. Refute it at one input. -/
def showBackWrong : ChangeSpec := { name := "showBack", fn := fun _ => fun
  | [d] => { results := [.lit (.bool false)], args := [d] }
  | _ => none }
def ShowBackWrongFalsely : Prop := showBackRow.holds Tryz.pinned (OpenSpec.ofChange showBackWrong)

/-- 'lazaruslaw11.ShowWords': WHATEVER THE INPUT: true; the input reads as it did. -/
def showWordsSpec : ChangeSpec := { name := "showWords", fn := fun _ => fun
  | [d] => { results := [.lit (.bool true)], args := [d] }
  | _ => none }
def showWordsRow : OpenClaim := { program := "ytcpmjkefbjbhpaagreatdoor", sum := "bdd7a54cce3b3589069beb168a2a6c4d238765f7fdd409d35d027cbfa54d8bb6", func := "lazarus/lazaruslaw11.ShowWords", spec := "showWords", inPlace := ["internal/bytealg.IndexByteString", "internal/bytealg.IndexString", "internal/abi.NoEscape"], unfollowed := true, recurses := true, named := ["unicode/utf8.first", "unicode/utf8.acceptRanges", "internal/bytealg.MaxLen", "lazarus/tree.shapes", "lazarus/show.frames"], loops := true, apart := false, laid := [("unicode/utf8.acceptRanges", laid_unicode_utf8_acceptRanges), ("lazarus/tree.shapes", laid_lazarus_tree_shapes), ("lazarus/show.frames", laid_lazarus_show_frames), ("unicode/utf8.first", laid_unicode_utf8_first)] }
def ShowWordsSaid : Prop := showWordsRow.holds Tryz.pinned (OpenSpec.ofChange showWordsSpec)

/-- ITS FALSE NEIGHBOUR: 'it returns false'. Refute it at one input. -/
def showWordsWrong : ChangeSpec := { name := "showWords", fn := fun _ => fun
  | [d] => { results := [.lit (.bool false)], args := [d] }
  | _ => none }
def ShowWordsWrongFalsely : Prop := showWordsRow.holds Tryz.pinned (OpenSpec.ofChange showWordsWrong)

/- THE SECOND FORM. 'bulk': how many values and letters a reading holds, each counted each time it is reached (what is shared counts as often as it is met; a slice's spare places count too). A statement '..UptoSaid' is the law's where the arguments, and the package variables that the reading takes, are together of bulk at most 1048576: NARROWER than '..Said'. Prove '..Said' where nothing that the law and all that it calls make is longer than what came in: it says more and counts as full. Else prove '..UptoSaid'. A law counts once. -/
mutual
def uptoBulk {H : Type} : DataW H → Nat
  | .lit (.string bytes) => bytes.length + 1
  | .lit _ => 1
  | .nil => 1
  | .ptr d => uptoBulk d + 1
  | .slice elems spare => uptoBulkAll elems + uptoBulkAll spare + 1
  | .agg parts => uptoBulkAll parts + 1
  | .iface _ d => uptoBulk d + 1
  | .map entries => uptoBulkEntries entries + 1
  | .held _ => 1
def uptoBulkAll {H : Type} : List (DataW H) → Nat
  | [] => 0
  | d :: r => uptoBulk d + uptoBulkAll r
def uptoBulkEntries {H : Type} : List (Lit × DataW H) → Nat
  | [] => 0
  | x :: r => uptoBulkEntry x + uptoBulkEntries r
def uptoBulkEntry {H : Type} : Lit × DataW H → Nat
  | (.string bytes, d) => bytes.length + uptoBulk d + 1
  | (_, d) => uptoBulk d + 1
 end
def uptoSmall : (H : Type) → List (DataW H) → Bool := fun _ ds => decide (uptoBulkAll ds ≤ 1048576)
def OpenSpec.upto (s : _root_.Go.ChangeSpec) : _root_.Go.OpenSpec := { _root_.Go.OpenSpec.ofChange s with cond := some uptoSmall }

/-- 'lazaruslaw10.ParseShown', WHERE WHAT IT READS IS OF BULK AT MOST 1048576: true; the input reads as it did. -/
def parseShownUptoRow : OpenClaim := { program := "ytcpmjkefbjbhpaagreatdoor", sum := "bdd7a54cce3b3589069beb168a2a6c4d238765f7fdd409d35d027cbfa54d8bb6", func := "lazarus/lazaruslaw10.ParseShown", spec := "parseShown", inPlace := ["internal/abi.NoEscape", "internal/bytealg.IndexByteString", "internal/bytealg.IndexString"], unfollowed := true, recurses := true, named := ["unicode/utf8.first", "unicode/utf8.acceptRanges", "lazarus/lex.signs", "internal/bytealg.MaxLen"], loops := true, apart := false, laid := [("unicode/utf8.acceptRanges", laid_unicode_utf8_acceptRanges), ("lazarus/lex.signs", laid_lazarus_lex_signs), ("unicode/utf8.first", laid_unicode_utf8_first)], narrowed := true }
def ParseShownUptoSaid : Prop := parseShownUptoRow.holds Tryz.pinned (OpenSpec.upto parseShownSpec)

/-- 'lazaruslaw10.ParseLines', WHERE WHAT IT READS IS OF BULK AT MOST 1048576: true; the input reads as it did. -/
def parseLinesUptoRow : OpenClaim := { program := "ytcpmjkefbjbhpaagreatdoor", sum := "bdd7a54cce3b3589069beb168a2a6c4d238765f7fdd409d35d027cbfa54d8bb6", func := "lazarus/lazaruslaw10.ParseLines", spec := "parseLines", inPlace := ["internal/abi.NoEscape", "internal/bytealg.IndexByteString", "internal/bytealg.IndexString"], unfollowed := true, recurses := true, named := ["unicode/utf8.first", "unicode/utf8.acceptRanges", "lazarus/lex.signs", "internal/bytealg.MaxLen"], apart := false, laid := [("unicode/utf8.acceptRanges", laid_unicode_utf8_acceptRanges), ("lazarus/lex.signs", laid_lazarus_lex_signs), ("unicode/utf8.first", laid_unicode_utf8_first)], narrowed := true }
def ParseLinesUptoSaid : Prop := parseLinesUptoRow.holds Tryz.pinned (OpenSpec.upto parseLinesSpec)

/-- 'lazaruslaw10.ParseGroup', WHERE WHAT IT READS IS OF BULK AT MOST 1048576: true; the input reads as it did. -/
def parseGroupUptoRow : OpenClaim := { program := "ytcpmjkefbjbhpaagreatdoor", sum := "bdd7a54cce3b3589069beb168a2a6c4d238765f7fdd409d35d027cbfa54d8bb6", func := "lazarus/lazaruslaw10.ParseGroup", spec := "parseGroup", inPlace := ["internal/abi.NoEscape", "internal/bytealg.IndexByteString", "internal/bytealg.IndexString"], unfollowed := true, recurses := true, named := ["unicode/utf8.first", "unicode/utf8.acceptRanges", "lazarus/lex.signs", "internal/bytealg.MaxLen"], apart := false, laid := [("unicode/utf8.acceptRanges", laid_unicode_utf8_acceptRanges), ("lazarus/lex.signs", laid_lazarus_lex_signs), ("unicode/utf8.first", laid_unicode_utf8_first)], narrowed := true }
def ParseGroupUptoSaid : Prop := parseGroupUptoRow.holds Tryz.pinned (OpenSpec.upto parseGroupSpec)

/-- 'lazaruslaw11.ShowTexts', WHERE WHAT IT READS IS OF BULK AT MOST 1048576: true; the input reads as it did. -/
def showTextsUptoRow : OpenClaim := { program := "ytcpmjkefbjbhpaagreatdoor", sum := "bdd7a54cce3b3589069beb168a2a6c4d238765f7fdd409d35d027cbfa54d8bb6", func := "lazarus/lazaruslaw11.ShowTexts", spec := "showTexts", inPlace := ["internal/bytealg.IndexByteString", "internal/bytealg.IndexString", "internal/abi.NoEscape"], unfollowed := true, recurses := true, named := ["unicode/utf8.first", "unicode/utf8.acceptRanges", "lazarus/tree.shapes", "internal/bytealg.MaxLen", "lazarus/show.frames"], loops := true, apart := false, laid := [("unicode/utf8.acceptRanges", laid_unicode_utf8_acceptRanges), ("lazarus/tree.shapes", laid_lazarus_tree_shapes), ("lazarus/show.frames", laid_lazarus_show_frames), ("unicode/utf8.first", laid_unicode_utf8_first)], narrowed := true }
def ShowTextsUptoSaid : Prop := showTextsUptoRow.holds Tryz.pinned (OpenSpec.upto showTextsSpec)

/-- 'lazaruslaw11.ShowBack', WHERE WHAT IT READS IS OF BULK AT MOST 1048576: true; the input reads as it did. -/
def showBackUptoRow : OpenClaim := { program := "ytcpmjkefbjbhpaagreatdoor", sum := "bdd7a54cce3b3589069beb168a2a6c4d238765f7fdd409d35d027cbfa54d8bb6", func := "lazarus/lazaruslaw11.ShowBack", spec := "showBack", inPlace := ["internal/bytealg.IndexByteString", "internal/bytealg.IndexString", "internal/abi.NoEscape"], unfollowed := true, recurses := true, named := ["unicode/utf8.first", "unicode/utf8.acceptRanges", "lazarus/tree.shapes", "internal/bytealg.MaxLen", "lazarus/show.frames"], loops := true, apart := false, laid := [("unicode/utf8.acceptRanges", laid_unicode_utf8_acceptRanges), ("lazarus/tree.shapes", laid_lazarus_tree_shapes), ("lazarus/show.frames", laid_lazarus_show_frames), ("unicode/utf8.first", laid_unicode_utf8_first)], narrowed := true }
def ShowBackUptoSaid : Prop := showBackUptoRow.holds Tryz.pinned (OpenSpec.upto showBackSpec)

/-- 'lazaruslaw11.ShowWords', WHERE WHAT IT READS IS OF BULK AT MOST 1048576: true; the input reads as it did. -/
def showWordsUptoRow : OpenClaim := { program := "ytcpmjkefbjbhpaagreatdoor", sum := "bdd7a54cce3b3589069beb168a2a6c4d238765f7fdd409d35d027cbfa54d8bb6", func := "lazarus/lazaruslaw11.ShowWords", spec := "showWords", inPlace := ["internal/bytealg.IndexByteString", "internal/bytealg.IndexString", "internal/abi.NoEscape"], unfollowed := true, recurses := true, named := ["unicode/utf8.first", "unicode/utf8.acceptRanges", "internal/bytealg.MaxLen", "lazarus/tree.shapes", "lazarus/show.frames"], loops := true, apart := false, laid := [("unicode/utf8.acceptRanges", laid_unicode_utf8_acceptRanges), ("lazarus/tree.shapes", laid_lazarus_tree_shapes), ("lazarus/show.frames", laid_lazarus_show_frames), ("unicode/utf8.first", laid_unicode_utf8_first)], narrowed := true }
def ShowWordsUptoSaid : Prop := showWordsUptoRow.holds Tryz.pinned (OpenSpec.upto showWordsSpec)

end Rows
end Go.Proofs.YtcpmjkefbjbhpaaGreatDoor
