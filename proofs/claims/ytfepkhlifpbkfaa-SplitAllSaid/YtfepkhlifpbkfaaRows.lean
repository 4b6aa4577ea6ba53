/-
  No cell of these rows narrows 'for every input' (looked for: loops, veiled, ifaces, maps, wideKeys, modest, calm, conditions, laid).
  DERIVED. THE GIVEN ROWS OF THIS SEAT. 3 by the template 'for every input the law returns true; each argument reads behind the call as it read before'; 0 by the template 'total and deterministic' (their statements: YtfepkhlifpbkfaaTotals.lean).
  GIVEN WITH THE SEED: the statements are not yours to turn. If you find one false, say at which input.
  Laid BY PROGRAM, IN A SANDBOX (cutbox-rows.mjs): the forced cells as the released guide's own fill.sh prints them over the translation 4674f6470a161c2c… (all of the seat's roots in one cut). By AI agents, Wed Nov 11 2026. No macro, syntax, notation, axiom, sorry.
-/
import Derived.Test.YtfepkhlifpbkfaaChecked
import GoSem.Claim
import GoSem.ClaimJoined
import GoSem.ClaimMapViews
import Derived.JoinedTies
import Derived.KernelRfl
namespace Go.Proofs.Ytfepkhlifpbkfaa
/- THE CELL 'sum', in the pinned program and in every row, IS THE sha256 OF THE DUMP (.gsa) THAT YtfepkhlifpbkfaaProg.lean LOADS. Nothing in Lean hashes anything: it is a label: what it is worth is what the hold of that sum in a sandbox is worth. -/
noncomputable def Try.pinned : Pinned := { name := "ytfepkhlifpbkfaa", sum := "4674f6470a161c2c91901abc1ac0aa789f17e98d8ed44d198526317b2f2851a3", checked := Try.checked }
namespace Rows
def none {H : Type} : Left H := { results := [], args := [] }

/-- 'lazaruslaw15.SplitLines': WHATEVER THE INPUT: true; the input reads as it did. -/
def splitLinesSpec : ChangeSpec := { name := "splitLines", fn := fun _ => fun
  | [d] => { results := [.lit (.bool true)], args := [d] }
  | _ => none }
def splitLinesRow : OpenClaim := { program := "ytfepkhlifpbkfaa", sum := "4674f6470a161c2c91901abc1ac0aa789f17e98d8ed44d198526317b2f2851a3", func := "lazarus/lazaruslaw15.SplitLines", spec := "splitLines", inPlace := ["internal/bytealg.IndexByteString", "internal/bytealg.IndexString"], named := ["internal/bytealg.MaxLen"], apart := false }
def SplitLinesSaid : Prop := splitLinesRow.holds Try.pinned (OpenSpec.ofChange splitLinesSpec)

/-- ITS FALSE NEIGHBOUR: 'it returns false'. Refute it at one input. -/
def splitLinesWrong : ChangeSpec := { name := "splitLines", fn := fun _ => fun
  | [d] => { results := [.lit (.bool false)], args := [d] }
  | _ => none }
def SplitLinesWrongFalsely : Prop := splitLinesRow.holds Try.pinned (OpenSpec.ofChange splitLinesWrong)

/-- 'lazaruslaw15.SplitSome': WHATEVER THE INPUT: true; the input reads as it did. -/
def splitSomeSpec : ChangeSpec := { name := "splitSome", fn := fun _ => fun
  | [d] => { results := [.lit (.bool true)], args := [d] }
  | _ => none }
def splitSomeRow : OpenClaim := { program := "ytfepkhlifpbkfaa", sum := "4674f6470a161c2c91901abc1ac0aa789f17e98d8ed44d198526317b2f2851a3", func := "lazarus/lazaruslaw15.SplitSome", spec := "splitSome", apart := false }
def SplitSomeSaid : Prop := splitSomeRow.holds Try.pinned (OpenSpec.ofChange splitSomeSpec)

/-- ITS FALSE NEIGHBOUR: 'it returns false'. Refute it at one input. -/
def splitSomeWrong : ChangeSpec := { name := "splitSome", fn := fun _ => fun
  | [d] => { results := [.lit (.bool false)], args := [d] }
  | _ => none }
def SplitSomeWrongFalsely : Prop := splitSomeRow.holds Try.pinned (OpenSpec.ofChange splitSomeWrong)

/-- 'lazaruslaw15.SplitAll': WHATEVER THE INPUT: true; the input reads as it did. -/
def splitAllSpec : ChangeSpec := { name := "splitAll", fn := fun _ => fun
  | [d] => { results := [.lit (.bool true)], args := [d] }
  | _ => none }
def splitAllRow : OpenClaim := { program := "ytfepkhlifpbkfaa", sum := "4674f6470a161c2c91901abc1ac0aa789f17e98d8ed44d198526317b2f2851a3", func := "lazarus/lazaruslaw15.SplitAll", spec := "splitAll", inPlace := ["internal/bytealg.IndexByteString", "internal/bytealg.IndexString"], named := ["internal/bytealg.MaxLen"], apart := false }
def SplitAllSaid : Prop := splitAllRow.holds Try.pinned (OpenSpec.ofChange splitAllSpec)

/-- ITS FALSE NEIGHBOUR: 'it returns false'. Refute it at one input. -/
def splitAllWrong : ChangeSpec := { name := "splitAll", fn := fun _ => fun
  | [d] => { results := [.lit (.bool false)], args := [d] }
  | _ => none }
def SplitAllWrongFalsely : Prop := splitAllRow.holds Try.pinned (OpenSpec.ofChange splitAllWrong)

/- THE SECOND FORM. 'bulk': how many values and letters a reading holds, each counted each time it is reached (what is shared counts as often as it is met; a slice's spare places count too). A statement '..UptoSaid' is the law's where the arguments, and the package variables that the reading takes, are together of bulk at most 1048576: NARROWER than '..Said'. Prove '..Said' where nothing that the law and all that it calls make is longer than what came in: it says more and counts as full. Else prove '..UptoSaid'. A law counts once. -/
mutual
def uptoBulk {H : Type} : DataW H → Nat
  | .lit (.string bytes) => bytes.length + 1
  | .lit _ => 1
  | .nil => 1
  | .ptr d => uptoBulk d + 1
  | .slice elems spare => uptoBulkAll elems + uptoBulkAll spare + 1
  | .agg parts => uptoBulkAll parts + 1
  | .iface _ d => uptoBulk d + 1
  | .map entries => uptoBulkEntries entries + 1
  | .held _ => 1
def uptoBulkAll {H : Type} : List (DataW H) → Nat
  | [] => 0
  | d :: r => uptoBulk d + uptoBulkAll r
def uptoBulkEntries {H : Type} : List (Lit × DataW H) → Nat
  | [] => 0
  | x :: r => uptoBulkEntry x + uptoBulkEntries r
def uptoBulkEntry {H : Type} : Lit × DataW H → Nat
  | (.string bytes, d) => bytes.length + uptoBulk d + 1
  | (_, d) => uptoBulk d + 1
 end
def uptoSmall : (H : Type) → List (DataW H) → Bool := fun _ ds => decide (uptoBulkAll ds ≤ 1048576)
def OpenSpec.upto (s : _root_.Go.ChangeSpec) : _root_.Go.OpenSpec := { _root_.Go.OpenSpec.ofChange s with cond := some uptoSmall }

/-- 'lazaruslaw15.SplitLines', WHERE WHAT IT READS IS OF BULK AT MOST 1048576: true; the input reads as it did. -/
def splitLinesUptoRow : OpenClaim := { program := "ytfepkhlifpbkfaa", sum := "4674f6470a161c2c91901abc1ac0aa789f17e98d8ed44d198526317b2f2851a3", func := "lazarus/lazaruslaw15.SplitLines", spec := "splitLines", inPlace := ["internal/bytealg.IndexByteString", "internal/bytealg.IndexString"], named := ["internal/bytealg.MaxLen"], apart := false, narrowed := true }
def SplitLinesUptoSaid : Prop := splitLinesUptoRow.holds Try.pinned (OpenSpec.upto splitLinesSpec)

/-- 'lazaruslaw15.SplitSome', WHERE WHAT IT READS IS OF BULK AT MOST 1048576: true; the input reads as it did. -/
def splitSomeUptoRow : OpenClaim := { program := "ytfepkhlifpbkfaa", sum := "4674f6470a161c2c91901abc1ac0aa789f17e98d8ed44d198526317b2f2851a3", func := "lazarus/lazaruslaw15.SplitSome", spec := "splitSome", apart := false, narrowed := true }
def SplitSomeUptoSaid : Prop := splitSomeUptoRow.holds Try.pinned (OpenSpec.upto splitSomeSpec)

/-- 'lazaruslaw15.SplitAll', WHERE WHAT IT READS IS OF BULK AT MOST 1048576: true; the input reads as it did. -/
def splitAllUptoRow : OpenClaim := { program := "ytfepkhlifpbkfaa", sum := "4674f6470a161c2c91901abc1ac0aa789f17e98d8ed44d198526317b2f2851a3", func := "lazarus/lazaruslaw15.SplitAll", spec := "splitAll", inPlace := ["internal/bytealg.IndexByteString", "internal/bytealg.IndexString"], named := ["internal/bytealg.MaxLen"], apart := false, narrowed := true }
def SplitAllUptoSaid : Prop := splitAllUptoRow.holds Try.pinned (OpenSpec.upto splitAllSpec)

end Rows
end Go.Proofs.Ytfepkhlifpbkfaa
