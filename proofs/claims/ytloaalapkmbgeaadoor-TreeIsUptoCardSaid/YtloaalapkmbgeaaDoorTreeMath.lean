/-
  Proved: plain facts on words and scripts: what a word is, what a script is, by values. Conditions: as each says.
-/
import Derived.Test.YtloaalapkmbgeaaDoorLexMath
namespace Go.Proofs.YtloaalapkmbgeaaDoor.TreeMath
open Go Go.Lib GlyphMath LexMath

/-- Bytes as a text. -/
abbrev T (l : List UInt8) : ByteArray := ⟨l.toArray⟩
theorem T_data (s : ByteArray) : T s.data.toList = s := rfl
theorem T_size (l : List UInt8) : (T l).size = l.length := rfl

def metaB : List UInt8 := [32, 9, 10, 59, 38, 124, 40, 41, 60, 62, 39, 34, 36, 92]
def metaW : List UInt8 := [39, 34, 36, 92, 125]
def anyIn (l cs : List UInt8) : Bool := l.any fun c => cs.contains c
def nameT (l : List UInt8) : Bool := nameL (letters (T l))
def textT (l : List UInt8) : Bool := isText (T l)
def otherT : List UInt8 → Bool
  | [c] => [49, 50, 51, 52, 53, 54, 55, 56, 57, 64, 35, 63].contains c
  | _ => false
def reckB : List UInt8 := [32, 9, 43, 45, 42, 47, 37, 40, 41, 60, 62, 61, 33]
def reckT (c : UInt8) : Bool := moreR (c.toNat : Int) || reckB.contains c
def arithT : List UInt8 → Nat → Bool
  | [], n => n == 0
  | c :: r, n => if c = 40 then arithT r (n + 1) else if c = 41 then n != 0 && arithT r (n - 1) else reckT c && arithT r n

def litT (within : Bool) (p : Pt) : Bool := textT p.text && (p.q || (!p.text.isEmpty && !anyIn p.text (if within then metaW else metaB)))
def varT (row : List Pt → Bool) (p : Pt) : Bool :=
  if nameT p.text || otherT p.text then
    if p.op = [] then p.word.isEmpty
    else if p.op = [35] then nameT p.text && p.word.isEmpty
    else if p.op = [58, 61] then nameT p.text && row p.word
    else if p.op = [58, 45] then row p.word
    else if p.op = [58, 43] then row p.word
    else false
  else false
def partT (row : List Pt → Bool) (within : Bool) (p : Pt) : Bool :=
  if p.kind = 1 then p.op.isEmpty && (p.word.isEmpty && litT within p)
  else if p.kind = 2 then varT row p
  else if p.kind = 3 then p.op.isEmpty && (p.word.isEmpty && arithT p.text 0)
  else false
def oneT (a b : Pt) : Bool := a.kind == 1 && (b.kind == 1 && a.q == b.q)
/-- Parts side by side, behind one, or none. -/
def sideT (f : Pt → Bool) : Option Pt → List Pt → Bool
  | _, [] => true
  | a, p :: r => f p && (!(a.any fun x => oneT x p) && sideT f (some p) r)
/-- By how many Words may still be. -/
def rowT : Nat → List Pt → Bool
  | 0, _ => false
  | k + 1, ps => sideT (partT (rowT k) (decide (k < 20))) none ps
def wordT (ps : List Pt) : Bool := !ps.isEmpty && rowT 21 ps

def bareT (p : Pt) : Bool := p.kind == 1 && !p.q
def openT : List Pt → List UInt8
  | [] => []
  | p :: _ => if bareT p then p.text else []
def plainT : List Pt → Option (List UInt8)
  | [p] => if bareT p then some p.text else none
  | _ => none
def hashT : List UInt8 → Bool
  | c :: _ => c == 35
  | [] => false
def bareW (ps : List Pt) : Bool := wordT ps && !hashT (openT ps)
/-- What is ahead of the first '='. -/
def aheadT : List UInt8 → Option (List UInt8)
  | [] => none
  | c :: r => if c = 61 then some [] else (aheadT r).map (c :: ·)
def givesT (ps : List Pt) : Bool := match aheadT (openT ps) with
  | some n => nameT n
  | none => false
def reservedL : List (List UInt8) := [[105, 102], [116, 104, 101, 110], [101, 108, 105, 102], [101, 108, 115, 101], [102, 105], [119, 104, 105, 108, 101], [117, 110, 116, 105, 108], [100, 111], [100, 111, 110, 101], [102, 111, 114], [105, 110], [99, 97, 115, 101], [101, 115, 97, 99], [123], [125], [33]]
def reservedT (l : List UInt8) : Bool := reservedL.contains l

/-- A node. -/
structure Nd where
  op : List UInt8
  name : List UInt8
  kids : List Int
  words : List (List Pt)
  pats : List (List (List Pt))
  assigns : List (List UInt8 × List Pt)
  redirs : List (List UInt8 × List Pt)

/-- What nodes of an Op have. -/
structure Sh where
  op : List UInt8
  k0 : Int
  k1 : Int
  w0 : Int
  w1 : Int
  name : Bool
  pats : Bool
  assigns : Bool
  redirs : Bool
def shapesL : List Sh := [
  ⟨[99, 109, 100], 0, 0, 0, 9223372036854775807, false, false, true, true⟩,
  ⟨[115, 101, 113], 2, 9223372036854775807, 0, 0, false, false, false, false⟩,
  ⟨[97, 110, 100], 2, 2, 0, 0, false, false, false, false⟩,
  ⟨[111, 114], 2, 2, 0, 0, false, false, false, false⟩,
  ⟨[110, 111, 116], 1, 1, 0, 0, false, false, false, false⟩,
  ⟨[112, 105, 112, 101], 2, 9223372036854775807, 0, 0, false, false, false, false⟩,
  ⟨[105, 102], 2, 3, 0, 0, false, false, false, true⟩,
  ⟨[119, 104, 105, 108, 101], 2, 2, 0, 0, false, false, false, true⟩,
  ⟨[117, 110, 116, 105, 108], 2, 2, 0, 0, false, false, false, true⟩,
  ⟨[102, 111, 114], 1, 1, 0, 9223372036854775807, true, false, false, true⟩,
  ⟨[99, 97, 115, 101], 0, 9223372036854775807, 1, 1, false, true, false, true⟩,
  ⟨[102, 117, 110], 1, 1, 0, 0, true, false, false, false⟩,
  ⟨[103, 114, 111, 117, 112], 1, 1, 0, 0, false, false, false, true⟩,
  ⟨[115, 117, 98], 1, 1, 0, 0, false, false, false, true⟩]
def hasT (a b n : Int) : Bool := decide (a ≤ n) && decide (n ≤ b)
def shapeT (s : Sh) (n : Nd) : Bool :=
  hasT s.k0 s.k1 n.kids.length && (hasT s.w0 s.w1 n.words.length && ((s.name == !n.name.isEmpty) && ((n.pats.length == (if s.pats then n.kids.length else 0)) && ((s.assigns || n.assigns.isEmpty) && (s.redirs || n.redirs.isEmpty)))))
def fitsT (n : Nd) : Bool := match shapesL.find? (fun s => s.op == n.op) with
  | some s => shapeT s n
  | none => false
def commandT (n : Nd) : Bool := match n.words with
  | [] => !n.assigns.isEmpty || !n.redirs.isEmpty
  | w :: _ => !givesT w && (!n.assigns.isEmpty || (match plainT w with | none => true | some t => !reservedT t))
def assignT (a : List UInt8 × List Pt) : Bool := nameT a.1 && wordT a.2
def redirT (r : List UInt8 × List Pt) : Bool := (r.1 == [60] || (r.1 == [62] || r.1 == [62, 62])) && bareW r.2
def patT (l : List (List Pt)) : Bool := !l.isEmpty && l.all bareW
def beginT (n : Nd) : Bool := if n.op = [99, 109, 100] then commandT n else if n.op = [102, 117, 110] then !reservedT n.name else true
def spellsT (n : Nd) : Bool := beginT n && ((n.name.isEmpty || nameT n.name) && (n.words.all bareW && (n.pats.all patT && (n.assigns.all assignT && n.redirs.all redirT))))
def rankT (op : List UInt8) : Int := if op = [115, 101, 113] then 4 else if op = [97, 110, 100] then 3 else if op = [111, 114] then 3 else if op = [110, 111, 116] then 2 else if op = [112, 105, 112, 101] then 1 else 0
def takesT (n : Nd) (i : Nat) (k : Nd) : Bool :=
  if n.op = [102, 117, 110] then (k.op == [103, 114, 111, 117, 112] || k.op == [115, 117, 98]) && k.redirs.isEmpty
  else if (n.op = [97, 110, 100] ∨ n.op = [111, 114]) ∧ i = 0 then decide (rankT k.op ≤ rankT n.op)
  else rankT n.op == 0 || decide (rankT k.op < rankT n.op)

/-- A node's kids, each in its turn: what comes next behind them. -/
def kidsT (walk : Int → Nat → Option Nat) (ns : List Nd) (n : Nd) : Nat → List Int → Nat → Option Nat
  | _, [], next => some next
  | i, k :: ks, next => match walk k next with
    | none => none
    | some m => match ns[k.toNat]? with
      | none => none
      | some kd => if takesT n i kd then kidsT walk ns n (i + 1) ks m else none
/-- The node of that number comes next, it and all below it are as they must be: what comes next behind it. -/
def walkT (ns : List Nd) : Nat → Int → Nat → Option Nat
  | 0, _, _ => none
  | f + 1, k, next => if k = next then match ns[next]? with
      | none => none
      | some n => if fitsT n && spellsT n then kidsT (walkT ns f) ns n 0 n.kids (next + 1) else none
    else none
def isT (ns : List Nd) (root : Int) : Bool := decide (ns.length ≤ 200) && (walkT ns ns.length root 0 == some ns.length)
end Go.Proofs.YtloaalapkmbgeaaDoor.TreeMath
