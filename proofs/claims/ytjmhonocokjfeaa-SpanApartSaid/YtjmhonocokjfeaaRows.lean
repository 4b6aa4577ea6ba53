/-
  No cell of these rows narrows 'for every input' (looked for: loops, veiled, ifaces, maps, wideKeys, modest, calm, conditions, laid).
  DERIVED. THE GIVEN ROWS OF THIS SEAT. 4 by the template 'for every input the law returns true; each argument reads behind the call as it read before'; 0 by the template 'total and deterministic' (their statements: YtjmhonocokjfeaaTotals.lean).
  GIVEN WITH THE SEED: the statements are not yours to turn. If you find one false, say at which input.
  Laid BY PROGRAM, IN A SANDBOX (cutbox-rows.mjs): the forced cells as the released guide's own fill.sh prints them over the translation cf5c781b58e708b4… (all of the seat's roots in one cut). By AI agents, Wed Nov 11 2026. No macro, syntax, notation, axiom, sorry.
-/
import Derived.Test.YtjmhonocokjfeaaChecked
import GoSem.Claim
import GoSem.ClaimJoined
import GoSem.ClaimMapViews
import Derived.JoinedTies
import Derived.KernelRfl
namespace Go.Proofs.Ytjmhonocokjfeaa
/- THE CELL 'sum', in the pinned program and in every row, IS THE sha256 OF THE DUMP (.gsa) THAT YtjmhonocokjfeaaProg.lean LOADS. Nothing in Lean hashes anything: it is a label: what it is worth is what the hold of that sum in a sandbox is worth. -/
noncomputable def Try.pinned : Pinned := { name := "ytjmhonocokjfeaa", sum := "cf5c781b58e708b42b5430943a2c9577e79c5060adf3a065dbad931ea9bf35a0", checked := Try.checked }
namespace Rows
def none {H : Type} : Left H := { results := [], args := [] }

/-- 'lazaruslaw4.SpanNeed': WHATEVER THE INPUT: true; the input reads as it did. -/
def spanNeedSpec : ChangeSpec := { name := "spanNeed", fn := fun _ => fun
  | [d] => { results := [.lit (.bool true)], args := [d] }
  | _ => none }
def spanNeedRow : OpenClaim := { program := "ytjmhonocokjfeaa", sum := "cf5c781b58e708b42b5430943a2c9577e79c5060adf3a065dbad931ea9bf35a0", func := "lazarus/lazaruslaw4.SpanNeed", spec := "spanNeed", unfollowed := true, recurses := true, apart := false }
def SpanNeedSaid : Prop := spanNeedRow.holds Try.pinned (OpenSpec.ofChange spanNeedSpec)

/-- ITS FALSE NEIGHBOUR: 'it returns false'. Refute it at one input. -/
def spanNeedWrong : ChangeSpec := { name := "spanNeed", fn := fun _ => fun
  | [d] => { results := [.lit (.bool false)], args := [d] }
  | _ => none }
def SpanNeedWrongFalsely : Prop := spanNeedRow.holds Try.pinned (OpenSpec.ofChange spanNeedWrong)

/-- 'lazaruslaw4.SpanCrash': WHATEVER THE INPUT: true; the input reads as it did. -/
def spanCrashSpec : ChangeSpec := { name := "spanCrash", fn := fun _ => fun
  | [d1, d2, d3, d4, d5, d6] => { results := [.lit (.bool true)], args := [d1, d2, d3, d4, d5, d6] }
  | _ => none }
def spanCrashRow : OpenClaim := { program := "ytjmhonocokjfeaa", sum := "cf5c781b58e708b42b5430943a2c9577e79c5060adf3a065dbad931ea9bf35a0", func := "lazarus/lazaruslaw4.SpanCrash", spec := "spanCrash", unfollowed := true, recurses := true, apart := false }
def SpanCrashSaid : Prop := spanCrashRow.holds Try.pinned (OpenSpec.ofChange spanCrashSpec)

/-- ITS FALSE NEIGHBOUR: 'it returns false'. Refute it at one input. -/
def spanCrashWrong : ChangeSpec := { name := "spanCrash", fn := fun _ => fun
  | [d1, d2, d3, d4, d5, d6] => { results := [.lit (.bool false)], args := [d1, d2, d3, d4, d5, d6] }
  | _ => none }
def SpanCrashWrongFalsely : Prop := spanCrashRow.holds Try.pinned (OpenSpec.ofChange spanCrashWrong)

/-- 'lazaruslaw4.SpanApart': WHATEVER THE INPUT: true; the input reads as it did. -/
def spanApartSpec : ChangeSpec := { name := "spanApart", fn := fun _ => fun
  | [d] => { results := [.lit (.bool true)], args := [d] }
  | _ => none }
def spanApartRow : OpenClaim := { program := "ytjmhonocokjfeaa", sum := "cf5c781b58e708b42b5430943a2c9577e79c5060adf3a065dbad931ea9bf35a0", func := "lazarus/lazaruslaw4.SpanApart", spec := "spanApart", unfollowed := true, recurses := true, apart := false }
def SpanApartSaid : Prop := spanApartRow.holds Try.pinned (OpenSpec.ofChange spanApartSpec)

/-- ITS FALSE NEIGHBOUR: 'it returns false'. Refute it at one input. -/
def spanApartWrong : ChangeSpec := { name := "spanApart", fn := fun _ => fun
  | [d] => { results := [.lit (.bool false)], args := [d] }
  | _ => none }
def SpanApartWrongFalsely : Prop := spanApartRow.holds Try.pinned (OpenSpec.ofChange spanApartWrong)

/-- 'lazaruslaw4.SpanRoom': WHATEVER THE INPUT: true; the input reads as it did. -/
def spanRoomSpec : ChangeSpec := { name := "spanRoom", fn := fun _ => fun
  | [d1, d2] => { results := [.lit (.bool true)], args := [d1, d2] }
  | _ => none }
def spanRoomRow : OpenClaim := { program := "ytjmhonocokjfeaa", sum := "cf5c781b58e708b42b5430943a2c9577e79c5060adf3a065dbad931ea9bf35a0", func := "lazarus/lazaruslaw4.SpanRoom", spec := "spanRoom", unfollowed := true, recurses := true, apart := false }
def SpanRoomSaid : Prop := spanRoomRow.holds Try.pinned (OpenSpec.ofChange spanRoomSpec)

/-- ITS FALSE NEIGHBOUR: 'it returns false'. Refute it at one input. -/
def spanRoomWrong : ChangeSpec := { name := "spanRoom", fn := fun _ => fun
  | [d1, d2] => { results := [.lit (.bool false)], args := [d1, d2] }
  | _ => none }
def SpanRoomWrongFalsely : Prop := spanRoomRow.holds Try.pinned (OpenSpec.ofChange spanRoomWrong)

/- THE SECOND FORM. 'bulk': how many values and letters a reading holds, each counted each time it is reached (what is shared counts as often as it is met; a slice's spare places count too). A statement '..UptoSaid' is the law's where the arguments, and the package variables that the reading takes, are together of bulk at most 1048576: NARROWER than '..Said'. Prove '..Said' where nothing that the law and all that it calls make is longer than what came in: it says more and counts as full. Else prove '..UptoSaid'. A law counts once. -/
mutual
def uptoBulk {H : Type} : DataW H → Nat
  | .lit (.string bytes) => bytes.length + 1
  | .lit _ => 1
  | .nil => 1
  | .ptr d => uptoBulk d + 1
  | .slice elems spare => uptoBulkAll elems + uptoBulkAll spare + 1
  | .agg parts => uptoBulkAll parts + 1
  | .iface _ d => uptoBulk d + 1
  | .map entries => uptoBulkEntries entries + 1
  | .held _ => 1
def uptoBulkAll {H : Type} : List (DataW H) → Nat
  | [] => 0
  | d :: r => uptoBulk d + uptoBulkAll r
def uptoBulkEntries {H : Type} : List (Lit × DataW H) → Nat
  | [] => 0
  | x :: r => uptoBulkEntry x + uptoBulkEntries r
def uptoBulkEntry {H : Type} : Lit × DataW H → Nat
  | (.string bytes, d) => bytes.length + uptoBulk d + 1
  | (_, d) => uptoBulk d + 1
 end
def uptoSmall : (H : Type) → List (DataW H) → Bool := fun _ ds => decide (uptoBulkAll ds ≤ 1048576)
def OpenSpec.upto (s : _root_.Go.ChangeSpec) : _root_.Go.OpenSpec := { _root_.Go.OpenSpec.ofChange s with cond := some uptoSmall }

/-- 'lazaruslaw4.SpanNeed', WHERE WHAT IT READS IS OF BULK AT MOST 1048576: true; the input reads as it did. -/
def spanNeedUptoRow : OpenClaim := { program := "ytjmhonocokjfeaa", sum := "cf5c781b58e708b42b5430943a2c9577e79c5060adf3a065dbad931ea9bf35a0", func := "lazarus/lazaruslaw4.SpanNeed", spec := "spanNeed", unfollowed := true, recurses := true, apart := false, narrowed := true }
def SpanNeedUptoSaid : Prop := spanNeedUptoRow.holds Try.pinned (OpenSpec.upto spanNeedSpec)

/-- 'lazaruslaw4.SpanCrash', WHERE WHAT IT READS IS OF BULK AT MOST 1048576: true; the input reads as it did. -/
def spanCrashUptoRow : OpenClaim := { program := "ytjmhonocokjfeaa", sum := "cf5c781b58e708b42b5430943a2c9577e79c5060adf3a065dbad931ea9bf35a0", func := "lazarus/lazaruslaw4.SpanCrash", spec := "spanCrash", unfollowed := true, recurses := true, apart := false, narrowed := true }
def SpanCrashUptoSaid : Prop := spanCrashUptoRow.holds Try.pinned (OpenSpec.upto spanCrashSpec)

/-- 'lazaruslaw4.SpanApart', WHERE WHAT IT READS IS OF BULK AT MOST 1048576: true; the input reads as it did. -/
def spanApartUptoRow : OpenClaim := { program := "ytjmhonocokjfeaa", sum := "cf5c781b58e708b42b5430943a2c9577e79c5060adf3a065dbad931ea9bf35a0", func := "lazarus/lazaruslaw4.SpanApart", spec := "spanApart", unfollowed := true, recurses := true, apart := false, narrowed := true }
def SpanApartUptoSaid : Prop := spanApartUptoRow.holds Try.pinned (OpenSpec.upto spanApartSpec)

/-- 'lazaruslaw4.SpanRoom', WHERE WHAT IT READS IS OF BULK AT MOST 1048576: true; the input reads as it did. -/
def spanRoomUptoRow : OpenClaim := { program := "ytjmhonocokjfeaa", sum := "cf5c781b58e708b42b5430943a2c9577e79c5060adf3a065dbad931ea9bf35a0", func := "lazarus/lazaruslaw4.SpanRoom", spec := "spanRoom", unfollowed := true, recurses := true, apart := false, narrowed := true }
def SpanRoomUptoSaid : Prop := spanRoomUptoRow.holds Try.pinned (OpenSpec.upto spanRoomSpec)

end Rows
end Go.Proofs.Ytjmhonocokjfeaa
