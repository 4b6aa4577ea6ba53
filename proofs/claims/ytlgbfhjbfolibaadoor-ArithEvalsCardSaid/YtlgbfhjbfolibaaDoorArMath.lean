/-
  Proved: plain facts on reckoning: tokens, signs, numbers; what is reckoned by two rows of what waits. Conditions: none.
-/
import Derived.Test.YtlgbfhjbfolibaaDoorGlyphMath
import Derived.Lib.ParseIntBTie
import Derived.IntWalk
import Derived.WalkKit
namespace Go.Proofs.YtlgbfhjbfolibaaDoor.ArMath
open Go Go.Lib GlyphMath

abbrev B := List UInt8
/-- A text of these bytes. -/
def tx (l : B) : ByteArray := ⟨l.toArray⟩
theorem tx_list (l : B) : (tx l).data.toList = l := by simp [tx]
theorem tx_toList (l : B) : (tx l).toList = l := by rw [Lib.toList_data, tx_list]
theorem tx_size (l : B) : (tx l).size = l.length := by show l.toArray.size = _; simp
theorem tx_of (s : ByteArray) : tx s.data.toList = s := by simp [tx]

def digC (c : UInt8) : Bool := decide (48 ≤ c.toNat) && decide (c.toNat ≤ 57)
def firC (c : UInt8) : Bool := (decide (97 ≤ c.toNat) && decide (c.toNat ≤ 122)) || (decide (65 ≤ c.toNat) && decide (c.toNat ≤ 90)) || decide (c.toNat = 95)
def morC (c : UInt8) : Bool := firC c || digC c
def blaC (c : UInt8) : Bool := decide (c.toNat = 32) || decide (c.toNat = 9) || decide (c.toNat = 10)

/-- How tightly a sign between two numbers binds. -/
def lev (t : B) : Nat :=
  if t = [60] ∨ t = [60, 61] ∨ t = [62] ∨ t = [62, 61] ∨ t = [61, 61] ∨ t = [33, 61] then 1
  else if t = [43] ∨ t = [45] then 2 else if t = [42] ∨ t = [47] ∨ t = [37] then 3 else 0

/-! ### Numbers -/
abbrev wr (x : Int) : Int := RowKit.wrap64 x
def inR (x : Int) : Bool := decide (-9223372036854775808 ≤ x) && decide (x ≤ 9223372036854775807)
def I64 (x : Int) : Prop := -9223372036854775808 ≤ x ∧ x ≤ 9223372036854775807
def truV (b : Bool) : Int := if b then 1 else 0
def oneV (t : B) (a : Int) : Int × Bool := if t = [33] then (truV (decide (a = 0)), true) else (wr (-a), inR (-a))
def twoV (t : B) (a b : Int) : Int × Bool :=
  if t = [43] then (wr (a + b), inR (a + b))
  else if t = [45] then (wr (a - b), inR (a - b))
  else if t = [42] then (wr (a * b), inR (a * b))
  else if t = [47] then (if b = 0 then (0, false) else (wr (a.tdiv b), inR (a.tdiv b)))
  else if t = [37] then (if b = 0 then (0, false) else (a.tmod b, true))
  else if t = [60] then (truV (decide (a < b)), true)
  else if t = [60, 61] then (truV (decide (a ≤ b)), true)
  else if t = [62] then (truV (decide (b < a)), true)
  else if t = [62, 61] then (truV (decide (b ≤ a)), true)
  else if t = [61, 61] then (truV (decide (a = b)), true)
  else (truV (!decide (a = b)), true)
/-- A text's number. -/
def numM (l : B) : Int × Bool := if l.head? = some 43 then (0, false) else match parseIntB 64 l with | .ok n => (n, true) | _ => (0, false)
abbrev Vars := List (B × B)
/-- What a value stands for. -/
def valM (v : B) : Int × Bool := ((numM v).1, (numM v).2 || decide (v = []))
/-- What a name stands for. -/
def envM : Vars → B → Int × Bool
  | [], _ => (0, true)
  | (k, v) :: r, n => if k = n then valM v else envM r n
def nameB (t : B) : Bool := match t with | [] => false | c :: _ => firC c && t.all morC && decide (t.length ≤ 12)
def digsB (t : B) : Bool := match t with | [] => false | c :: _ => digC c

/-! ### Tokens -/
def skipB (s : B) : B := s.dropWhile blaC
def signB (c : UInt8) : B → B
  | [] => []
  | d :: q => if lev [c, d] = 0 then d :: q else q
def behB : B → B
  | [] => []
  | c :: r => if digC c then (c :: r).dropWhile digC else if firC c then (c :: r).dropWhile morC else signB c r
def tokB (s : B) : B := (skipB s).take ((skipB s).length - (behB (skipB s)).length)
def leftB (s : B) : B := behB (skipB s)

/-! ### The two rows -/
structure St where
  left : B
  nums : List Int
  signs : List (B × Nat)
  bad : Bool
def binN : List (B × Nat) → Nat
  | [] => 0
  | (_, k) :: S => (if k = 4 ∨ k = 0 then 0 else 1) + binN S
def lastL : List (B × Nat) → Nat
  | [] => 0
  | (_, k) :: _ => k
/-- The last signs are reckoned, as long as they bind that tightly. -/
def reck (l : Nat) : List (B × Nat) → List Int → Bool → List (B × Nat) × List Int × Bool
  | [], N, bad => ([], N, bad)
  | (t, k) :: S, N, bad =>
    if l ≤ k then
      (if k = 4 then
        match N with
        | b :: N => reck l S ((oneV t b).1 :: N) (bad || !(oneV t b).2)
        | [] => ((t, k) :: S, [], bad)
      else
        match N with
        | b :: a :: N => reck l S ((twoV t a b).1 :: N) (bad || !(twoV t a b).2)
        | _ => ((t, k) :: S, N, bad))
    else ((t, k) :: S, N, bad)
def St.reck (l : Nat) (s : St) : St := let r := ArMath.reck l s.signs s.nums s.bad; { s with signs := r.1, nums := r.2.1, bad := r.2.2 }
def St.put (s : St) (v : Int × Bool) : St := { s with nums := v.1 :: s.nums, bad := s.bad || !v.2 }
def St.wait (s : St) (t : B) (k : Nat) : St := { s with signs := (t, k) :: s.signs }
def St.next (s : St) : St := { s with left := leftB s.left }
def St.tok (s : St) : B := tokB s.left

def outM : Option St → Int × Int
  | none => (0, 2)
  | some s2 => if s2.bad then (0, 6) else (s2.nums.headD 0, 0)
section
variable (vs : Vars)
def operF : Nat → St → Option St
  | 0, _ => none
  | f + 1, s =>
    if s.tok = [45] ∨ s.tok = [33] then operF f (s.next.wait s.tok 4)
    else if s.tok = [40] then operF f (s.next.wait s.tok 0)
    else if digsB s.tok then some (s.next.put (numM s.tok))
    else if nameB s.tok then some (s.next.put (envM vs s.tok))
    else none
/-- Behind an operand, and the token t behind it. -/
def moreF : Nat → B → St → Option St
  | 0, _, _ => none
  | f + 1, t, s =>
    if t = [41] then
      match (s.reck 1).signs with
      | [] => none
      | _ :: S => moreF f ({ s.reck 1 with signs := S }).tok ({ s.reck 1 with signs := S }).next
    else if t = [] then (if (s.reck 1).signs = [] then some (s.reck 1) else none)
    else if lev t = 0 then none
    else if lastL (s.reck (max (lev t) 2)).signs = lev t then none
    else match operF vs (f + 1) ((s.reck (max (lev t) 2)).wait t (lev t)) with
      | none => none
      | some s2 => moreF f s2.tok s2.next
def exprF (f : Nat) (s : St) : Option St := match operF vs f s with
  | none => none
  | some s2 => moreF vs f s2.tok s2.next
/-- What Eval answers. -/
def evalM (s : B) : Int × Int := outM (exprF vs (s.length + 2) ⟨s, [], [], false⟩)
end

/-! ### Lengths -/
theorem drop_le (p : UInt8 → Bool) : ∀ l : B, (l.dropWhile p).length ≤ l.length
  | [] => by simp
  | a :: r => by rw [List.dropWhile_cons]; split; · have := drop_le p r; simp; omega
                 · simp
theorem sign_le (c : UInt8) (r : B) : (signB c r).length ≤ r.length := by
  cases r with
  | nil => simp [signB]
  | cons d q => show (if lev [c, d] = 0 then d :: q else q).length ≤ _; split <;> simp
theorem beh_cons (c : UInt8) (r : B) : behB (c :: r) = if digC c then r.dropWhile digC else if firC c then r.dropWhile morC else signB c r := by
  show (if digC c then (c :: r).dropWhile digC else if firC c then (c :: r).dropWhile morC else signB c r) = _
  cases h1 : digC c with
  | true => rw [List.dropWhile_cons]; simp [h1]
  | false =>
    cases h2 : firC c with
    | true => rw [List.dropWhile_cons (p := morC)]; simp [morC, h2]
    | false => simp
theorem beh_lt (c : UInt8) (r : B) : (behB (c :: r)).length ≤ r.length := by
  rw [beh_cons]
  split
  · exact drop_le _ _
  · split
    · exact drop_le _ _
    · exact sign_le c r
theorem beh_le (s : B) : (behB s).length ≤ s.length := by
  cases s with
  | nil => simp [behB]
  | cons c r => have := beh_lt c r; simp; omega
theorem left_le (s : B) : (leftB s).length ≤ s.length := Nat.le_trans (beh_le _) (drop_le _ _)
theorem tok_len (s : B) : (tokB s).length + (leftB s).length = (skipB s).length := by
  have := beh_le (skipB s)
  unfold tokB leftB
  rw [List.length_take]; omega
theorem tok_nil {s : B} (h : tokB s = []) : skipB s = [] ∧ leftB s = [] := by
  cases hs : skipB s with
  | nil => exact ⟨rfl, by unfold leftB; rw [hs]; rfl⟩
  | cons c r =>
    have h1 := tok_len s
    have h2 := beh_lt c r
    unfold leftB at h1
    rw [h, hs] at h1
    simp at h1; omega
theorem tok_lt {s : B} (h : tokB s ≠ []) : (leftB s).length < s.length := by
  have h1 := tok_len s
  have h2 := drop_le blaC s
  have h3 : 0 < (tokB s).length := List.length_pos_iff.2 h
  unfold skipB at h1
  omega
end Go.Proofs.YtlgbfhjbfolibaaDoor.ArMath
