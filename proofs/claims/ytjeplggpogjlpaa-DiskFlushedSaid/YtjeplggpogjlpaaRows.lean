/-
  No cell of these rows narrows 'for every input' (looked for: loops, veiled, ifaces, maps, wideKeys, modest, calm, conditions, laid).
  DERIVED. THE GIVEN ROWS OF THIS SEAT. 5 by the template 'for every input the law returns true; each argument reads behind the call as it read before'; 0 by the template 'total and deterministic' (their statements: YtjeplggpogjlpaaTotals.lean).
  GIVEN WITH THE SEED: the statements are not yours to turn. If you find one false, say at which input.
  Laid BY PROGRAM, IN A SANDBOX (cutbox-rows.mjs): the forced cells as the released guide's own fill.sh prints them over the translation 595ef1a2a68da608… (all of the seat's roots in one cut). By AI agents, Wed Nov 11 2026. No macro, syntax, notation, axiom, sorry.
-/
import Derived.Test.YtjeplggpogjlpaaChecked
import GoSem.Claim
import GoSem.ClaimJoined
import GoSem.ClaimMapViews
import Derived.JoinedTies
import Derived.KernelRfl
namespace Go.Proofs.Ytjeplggpogjlpaa
/- THE CELL 'sum', in the pinned program and in every row, IS THE sha256 OF THE DUMP (.gsa) THAT YtjeplggpogjlpaaProg.lean LOADS. Nothing in Lean hashes anything: it is a label: what it is worth is what the hold of that sum in a sandbox is worth. -/
noncomputable def Try.pinned : Pinned := { name := "ytjeplggpogjlpaa", sum := "595ef1a2a68da6080283ca40294c02d4cf4eb101644baf48c43e6aeb6ea1b7ec", checked := Try.checked }
namespace Rows
def none {H : Type} : Left H := { results := [], args := [] }

/-- 'lazaruslaw3.DiskFlushed': WHATEVER THE INPUT: true; the input reads as it did. -/
def diskFlushedSpec : ChangeSpec := { name := "diskFlushed", fn := fun _ => fun
  | [d1, d2, d3] => { results := [.lit (.bool true)], args := [d1, d2, d3] }
  | _ => none }
def diskFlushedRow : OpenClaim := { program := "ytjeplggpogjlpaa", sum := "595ef1a2a68da6080283ca40294c02d4cf4eb101644baf48c43e6aeb6ea1b7ec", func := "lazarus/lazaruslaw3.DiskFlushed", spec := "diskFlushed", apart := false }
def DiskFlushedSaid : Prop := diskFlushedRow.holds Try.pinned (OpenSpec.ofChange diskFlushedSpec)

/-- ITS FALSE NEIGHBOUR: 'it returns false'. Refute it at one input. -/
def diskFlushedWrong : ChangeSpec := { name := "diskFlushed", fn := fun _ => fun
  | [d1, d2, d3] => { results := [.lit (.bool false)], args := [d1, d2, d3] }
  | _ => none }
def DiskFlushedWrongFalsely : Prop := diskFlushedRow.holds Try.pinned (OpenSpec.ofChange diskFlushedWrong)

/-- 'lazaruslaw3.DiskOwn': WHATEVER THE INPUT: true; the input reads as it did. -/
def diskOwnSpec : ChangeSpec := { name := "diskOwn", fn := fun _ => fun
  | [d] => { results := [.lit (.bool true)], args := [d] }
  | _ => none }
def diskOwnRow : OpenClaim := { program := "ytjeplggpogjlpaa", sum := "595ef1a2a68da6080283ca40294c02d4cf4eb101644baf48c43e6aeb6ea1b7ec", func := "lazarus/lazaruslaw3.DiskOwn", spec := "diskOwn", apart := false }
def DiskOwnSaid : Prop := diskOwnRow.holds Try.pinned (OpenSpec.ofChange diskOwnSpec)

/-- ITS FALSE NEIGHBOUR: 'it returns false'. Refute it at one input. -/
def diskOwnWrong : ChangeSpec := { name := "diskOwn", fn := fun _ => fun
  | [d] => { results := [.lit (.bool false)], args := [d] }
  | _ => none }
def DiskOwnWrongFalsely : Prop := diskOwnRow.holds Try.pinned (OpenSpec.ofChange diskOwnWrong)

/-- 'lazaruslaw3.DiskLater': WHATEVER THE INPUT: true; the input reads as it did. -/
def diskLaterSpec : ChangeSpec := { name := "diskLater", fn := fun _ => fun
  | [d1, d2, d3] => { results := [.lit (.bool true)], args := [d1, d2, d3] }
  | _ => none }
def diskLaterRow : OpenClaim := { program := "ytjeplggpogjlpaa", sum := "595ef1a2a68da6080283ca40294c02d4cf4eb101644baf48c43e6aeb6ea1b7ec", func := "lazarus/lazaruslaw3.DiskLater", spec := "diskLater", apart := false }
def DiskLaterSaid : Prop := diskLaterRow.holds Try.pinned (OpenSpec.ofChange diskLaterSpec)

/-- ITS FALSE NEIGHBOUR: 'it returns false'. Refute it at one input. -/
def diskLaterWrong : ChangeSpec := { name := "diskLater", fn := fun _ => fun
  | [d1, d2, d3] => { results := [.lit (.bool false)], args := [d1, d2, d3] }
  | _ => none }
def DiskLaterWrongFalsely : Prop := diskLaterRow.holds Try.pinned (OpenSpec.ofChange diskLaterWrong)

/-- 'lazaruslaw3.DiskOutside': WHATEVER THE INPUT: true; the input reads as it did. -/
def diskOutsideSpec : ChangeSpec := { name := "diskOutside", fn := fun _ => fun
  | [d1, d2, d3] => { results := [.lit (.bool true)], args := [d1, d2, d3] }
  | _ => none }
def diskOutsideRow : OpenClaim := { program := "ytjeplggpogjlpaa", sum := "595ef1a2a68da6080283ca40294c02d4cf4eb101644baf48c43e6aeb6ea1b7ec", func := "lazarus/lazaruslaw3.DiskOutside", spec := "diskOutside", apart := false }
def DiskOutsideSaid : Prop := diskOutsideRow.holds Try.pinned (OpenSpec.ofChange diskOutsideSpec)

/-- ITS FALSE NEIGHBOUR: 'it returns false'. Refute it at one input. -/
def diskOutsideWrong : ChangeSpec := { name := "diskOutside", fn := fun _ => fun
  | [d1, d2, d3] => { results := [.lit (.bool false)], args := [d1, d2, d3] }
  | _ => none }
def DiskOutsideWrongFalsely : Prop := diskOutsideRow.holds Try.pinned (OpenSpec.ofChange diskOutsideWrong)

/-- 'lazaruslaw3.DiskArms': WHATEVER THE INPUT: true; the input reads as it did. -/
def diskArmsSpec : ChangeSpec := { name := "diskArms", fn := fun _ => fun
  | [d1, d2] => { results := [.lit (.bool true)], args := [d1, d2] }
  | _ => none }
def diskArmsRow : OpenClaim := { program := "ytjeplggpogjlpaa", sum := "595ef1a2a68da6080283ca40294c02d4cf4eb101644baf48c43e6aeb6ea1b7ec", func := "lazarus/lazaruslaw3.DiskArms", spec := "diskArms", apart := false }
def DiskArmsSaid : Prop := diskArmsRow.holds Try.pinned (OpenSpec.ofChange diskArmsSpec)

/-- ITS FALSE NEIGHBOUR: 'it returns false'. Refute it at one input. -/
def diskArmsWrong : ChangeSpec := { name := "diskArms", fn := fun _ => fun
  | [d1, d2] => { results := [.lit (.bool false)], args := [d1, d2] }
  | _ => none }
def DiskArmsWrongFalsely : Prop := diskArmsRow.holds Try.pinned (OpenSpec.ofChange diskArmsWrong)

/- THE SECOND FORM. 'bulk': how many values and letters a reading holds, each counted each time it is reached (what is shared counts as often as it is met; a slice's spare places count too). A statement '..UptoSaid' is the law's where the arguments, and the package variables that the reading takes, are together of bulk at most 1048576: NARROWER than '..Said'. Prove '..Said' where nothing that the law and all that it calls make is longer than what came in: it says more and counts as full. Else prove '..UptoSaid'. A law counts once. -/
mutual
def uptoBulk {H : Type} : DataW H → Nat
  | .lit (.string bytes) => bytes.length + 1
  | .lit _ => 1
  | .nil => 1
  | .ptr d => uptoBulk d + 1
  | .slice elems spare => uptoBulkAll elems + uptoBulkAll spare + 1
  | .agg parts => uptoBulkAll parts + 1
  | .iface _ d => uptoBulk d + 1
  | .map entries => uptoBulkEntries entries + 1
  | .held _ => 1
def uptoBulkAll {H : Type} : List (DataW H) → Nat
  | [] => 0
  | d :: r => uptoBulk d + uptoBulkAll r
def uptoBulkEntries {H : Type} : List (Lit × DataW H) → Nat
  | [] => 0
  | x :: r => uptoBulkEntry x + uptoBulkEntries r
def uptoBulkEntry {H : Type} : Lit × DataW H → Nat
  | (.string bytes, d) => bytes.length + uptoBulk d + 1
  | (_, d) => uptoBulk d + 1
 end
def uptoSmall : (H : Type) → List (DataW H) → Bool := fun _ ds => decide (uptoBulkAll ds ≤ 1048576)
def OpenSpec.upto (s : _root_.Go.ChangeSpec) : _root_.Go.OpenSpec := { _root_.Go.OpenSpec.ofChange s with cond := some uptoSmall }

/-- 'lazaruslaw3.DiskFlushed', WHERE WHAT IT READS IS OF BULK AT MOST 1048576: true; the input reads as it did. -/
def diskFlushedUptoRow : OpenClaim := { program := "ytjeplggpogjlpaa", sum := "595ef1a2a68da6080283ca40294c02d4cf4eb101644baf48c43e6aeb6ea1b7ec", func := "lazarus/lazaruslaw3.DiskFlushed", spec := "diskFlushed", apart := false, narrowed := true }
def DiskFlushedUptoSaid : Prop := diskFlushedUptoRow.holds Try.pinned (OpenSpec.upto diskFlushedSpec)

/-- 'lazaruslaw3.DiskOwn', WHERE WHAT IT READS IS OF BULK AT MOST 1048576: true; the input reads as it did. -/
def diskOwnUptoRow : OpenClaim := { program := "ytjeplggpogjlpaa", sum := "595ef1a2a68da6080283ca40294c02d4cf4eb101644baf48c43e6aeb6ea1b7ec", func := "lazarus/lazaruslaw3.DiskOwn", spec := "diskOwn", apart := false, narrowed := true }
def DiskOwnUptoSaid : Prop := diskOwnUptoRow.holds Try.pinned (OpenSpec.upto diskOwnSpec)

/-- 'lazaruslaw3.DiskLater', WHERE WHAT IT READS IS OF BULK AT MOST 1048576: true; the input reads as it did. -/
def diskLaterUptoRow : OpenClaim := { program := "ytjeplggpogjlpaa", sum := "595ef1a2a68da6080283ca40294c02d4cf4eb101644baf48c43e6aeb6ea1b7ec", func := "lazarus/lazaruslaw3.DiskLater", spec := "diskLater", apart := false, narrowed := true }
def DiskLaterUptoSaid : Prop := diskLaterUptoRow.holds Try.pinned (OpenSpec.upto diskLaterSpec)

/-- 'lazaruslaw3.DiskOutside', WHERE WHAT IT READS IS OF BULK AT MOST 1048576: true; the input reads as it did. -/
def diskOutsideUptoRow : OpenClaim := { program := "ytjeplggpogjlpaa", sum := "595ef1a2a68da6080283ca40294c02d4cf4eb101644baf48c43e6aeb6ea1b7ec", func := "lazarus/lazaruslaw3.DiskOutside", spec := "diskOutside", apart := false, narrowed := true }
def DiskOutsideUptoSaid : Prop := diskOutsideUptoRow.holds Try.pinned (OpenSpec.upto diskOutsideSpec)

/-- 'lazaruslaw3.DiskArms', WHERE WHAT IT READS IS OF BULK AT MOST 1048576: true; the input reads as it did. -/
def diskArmsUptoRow : OpenClaim := { program := "ytjeplggpogjlpaa", sum := "595ef1a2a68da6080283ca40294c02d4cf4eb101644baf48c43e6aeb6ea1b7ec", func := "lazarus/lazaruslaw3.DiskArms", spec := "diskArms", apart := false, narrowed := true }
def DiskArmsUptoSaid : Prop := diskArmsUptoRow.holds Try.pinned (OpenSpec.upto diskArmsSpec)

end Rows
end Go.Proofs.Ytjeplggpogjlpaa
