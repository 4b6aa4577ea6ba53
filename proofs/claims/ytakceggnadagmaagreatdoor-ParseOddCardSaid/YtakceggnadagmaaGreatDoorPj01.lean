/-
  Proved: texts joined: Proved: plain facts on a lexer by letters: what it takes, how long what it makes is. Conditions: as each says.
  Proved: plain facts on words and scripts: what a word is, what a script is, by values. Conditions: as each says.
  Proved: plain facts on a parser by tokens: what it takes, what it makes of them. Conditions: as each says.
-/
import Derived.Test.YtakceggnadagmaaGreatDoorGlyphMath
namespace Go.Proofs.YtakceggnadagmaaGreatDoor.LexMath
open Go Go.Lib GlyphMath

/-- A letter's bytes. -/
def eb (c : Nat) : List UInt8 :=
  if c < 128 then [UInt8.ofNat c]
  else if c < 2048 then [UInt8.ofNat (192 + c / 64), UInt8.ofNat (128 + c % 64)]
  else if c < 65536 then [UInt8.ofNat (224 + c / 4096), UInt8.ofNat (128 + c / 64 % 64), UInt8.ofNat (128 + c % 64)]
  else [UInt8.ofNat (240 + c / 262144), UInt8.ofNat (128 + c / 4096 % 64), UInt8.ofNat (128 + c / 64 % 64), UInt8.ofNat (128 + c % 64)]
/-- Letters' bytes. -/
def enc : List Nat → List UInt8
  | [] => []
  | c :: r => eb c ++ enc r

/-- A part of a word. -/
structure Pt where
  kind : Int
  text : List UInt8
  op : List UInt8
  word : List Pt
  q : Bool
/-- A token. -/
structure Tk where
  kind : Int
  text : List UInt8
  word : List Pt
  at_ : Nat

/-- A letter that a text may have. -/
def GoodL (c : Nat) : Prop := 0 < c ∧ c ≤ 1114111 ∧ (c < 55296 ∨ 57343 < c)

def acts (r : Nat) : Bool := r == 34 || r == 36 || r == 92
def begins (r : Nat) : Bool := r == 39 || acts r
def ends (r : Nat) (deep : Bool) : Bool := if deep then r == 125 else blankR r || (r == 59 || r == 38 || r == 124 || r == 40 || r == 41 || r == 60 || r == 62)
def other (r : Nat) : Bool := decide (49 ≤ r ∧ r ≤ 57) || (r == 64 || r == 35 || r == 63)
def reckons (r : Nat) : Bool := moreR r || (r == 32 || r == 9 || r == 43 || r == 45 || r == 42 || r == 47 || r == 37 || r == 40 || r == 41 || r == 60 || r == 62 || r == 61 || r == 33)

def next : List Nat → Nat
  | [] => 0
  | c :: _ => c
def takes : List Nat → List Nat → Option (List Nat)
  | [], xs => some xs
  | _ :: _, [] => none
  | p :: ps, x :: xs => if p = x then takes ps xs else none
def got (S : Nat → Bool) : List Nat → List Nat
  | [] => []
  | c :: r => if S c then [] else c :: got S r
def left (S : Nat → Bool) : List Nat → List Nat
  | [] => []
  | c :: r => if S c then c :: r else left S r

/-- A Lit more. -/
def lit : List Pt → List UInt8 → Bool → List Pt
  | [], t, q => [⟨1, t, [], [], q⟩]
  | [p], t, q => if p.kind = 1 ∧ p.q = q then [{ p with text := p.text ++ t }] else [p, ⟨1, t, [], [], q⟩]
  | p :: p' :: r, t, q => p :: lit (p' :: r) t q
theorem lit_last (ps : List Pt) (p : Pt) (t : List UInt8) (q : Bool) : lit (ps ++ [p]) t q = if p.kind = 1 ∧ p.q = q then ps ++ [{ p with text := p.text ++ t }] else ps ++ [p] ++ [⟨1, t, [], [], q⟩] := by
  induction ps with
  | nil => simp only [List.nil_append, lit]; split <;> simp
  | cons a r ih =>
    cases r with
    | nil => simp only [List.cons_append, List.nil_append, lit]; split <;> rfl
    | cons b r => simp only [List.cons_append, lit] at ih ⊢; rw [ih]; split <;> simp

abbrev Res (α : Type) := Except Nat (α × List Nat)

def escapedM (xs : List Nat) (ps : List Pt) : Res (List Pt) :=
  match xs.tail with
  | [] => .error 2
  | c :: r => .ok (lit ps (enc [c]) true, r)
def singleM (xs : List Nat) (ps : List Pt) : Res (List Pt) :=
  match takes [39] (left (fun r => r == 39) xs.tail) with
  | none => .error 2
  | some r => .ok (lit ps (enc (got (fun r => r == 39) xs.tail)) true, r)
def escapedWithinM (xs : List Nat) (ps : List Pt) : Res (List Pt) :=
  match xs.tail with
  | [] => .error 2
  | c :: r => .ok (lit (if acts c then ps else lit ps [92] true) (enc [c]) true, r)
def parameterM (xs : List Nat) : Res (List Nat) :=
  if other (next xs) then .ok ([next xs], xs.tail)
  else if nameL (got (fun r => !moreR r) xs) then .ok (got (fun r => !moreR r) xs, left (fun r => !moreR r) xs)
  else .error 2
def opM (name : Bool) (xs : List Nat) : Option (List UInt8 × List Nat) :=
  match takes [58, 45] xs with
  | some r => some ([58, 45], r)
  | none => match takes [58, 43] xs with
    | some r => some ([58, 43], r)
    | none => if name then (match takes [58, 61] xs with
      | some r => some ([58, 61], r)
      | none => none) else none
def closeM (p : Pt) (xs : List Nat) : Res Pt :=
  match takes [125] xs with
  | some r => .ok (p, r)
  | none => .error 2
def operationM (parts : List Nat → Res (List Pt)) (l : List Nat) (xs : List Nat) : Res Pt :=
  if l = [35] ∧ firstR (next xs) = true then
    match parameterM xs with
    | .error e => .error e
    | .ok (l', r) => .ok (⟨2, enc l', [35], [], false⟩, r)
  else match opM (nameL l) xs with
    | none => .error 2
    | some (o, r) => match parts r with
      | .error e => .error e
      | .ok (w, r') => .ok (⟨2, enc l, o, w, false⟩, r')
def bracesM (lim : Bool) (parts : List Nat → Res (List Pt)) (xs : List Nat) : Res Pt :=
  if lim then .error 3 else
  match parameterM xs with
  | .error e => .error e
  | .ok (l, r) =>
    if next r = 125 then closeM ⟨2, enc l, [], [], false⟩ r
    else match operationM parts l r with
      | .error e => .error e
      | .ok (p, r') => closeM p r'
def arithM : List Nat → Nat → List Nat → Res (List Nat)
  | [], _, _ => .error 2
  | c :: r, n, acc =>
    if n = 0 ∧ c = 41 then (if next r = 41 then .ok (acc, r.tail) else .error 2)
    else if reckons c then arithM r (if c = 40 then n + 1 else if c = 41 then n - 1 else n) (acc ++ [c])
    else .error 2
def dollarM (br : List Nat → Res Pt) (q : Bool) (xs : List Nat) (ps : List Pt) : Res (List Pt) :=
  match takes [123] xs.tail with
  | some r => match br r with
    | .error e => .error e
    | .ok (p, r') => .ok (ps ++ [{ p with q := q }], r')
  | none => match takes [40, 40] xs.tail with
    | some r => match arithM r 0 [] with
      | .error e => .error e
      | .ok (l, r') => .ok (ps ++ [⟨3, enc l, [], [], q⟩], r')
    | none =>
      if firstR (next xs.tail) || other (next xs.tail) then
        match parameterM xs.tail with
        | .error e => .error e
        | .ok (l, r') => .ok (ps ++ [⟨2, enc l, [], [], q⟩], r')
      else .ok (lit ps [36] true, xs.tail)
def withinM (br : List Nat → Res Pt) (xs : List Nat) (ps : List Pt) : Res (List Pt) :=
  if next xs = 0 then .error 2
  else if next xs = 92 then escapedWithinM xs ps
  else if next xs = 36 then dollarM br true xs ps
  else .ok (lit ps (enc (got acts xs)) true, left acts xs)
def doubleL (br : List Nat → Res Pt) : Nat → List Nat → List Pt → Res (List Pt)
  | 0, _, _ => .error 0
  | f + 1, xs, ps =>
    match takes [34] xs with
    | some r => .ok (ps, r)
    | none => match withinM br xs ps with
      | .error e => .error e
      | .ok (ps', xs') => doubleL br f xs' ps'
def doubleM (br : List Nat → Res Pt) (xs : List Nat) (ps : List Pt) : Res (List Pt) :=
  doubleL br (xs.length + 1) xs.tail (if next xs.tail = 34 then lit ps [] true else ps)
def partM (br : List Nat → Res Pt) (deep : Bool) (xs : List Nat) (ps : List Pt) : Res (List Pt) :=
  if next xs = 92 then escapedM xs ps
  else if next xs = 39 then singleM xs ps
  else if next xs = 34 then doubleM br xs ps
  else if next xs = 36 then dollarM br false xs ps
  else .ok (lit ps (enc (got (fun r => begins r || ends r deep) xs)) false, left (fun r => begins r || ends r deep) xs)
def partsL (br : List Nat → Res Pt) (deep : Bool) : Nat → List Nat → List Pt → Res (List Pt)
  | 0, _, _ => .error 0
  | f + 1, xs, ps =>
    if next xs = 0 ∨ ends (next xs) deep = true then .ok (ps, xs)
    else match partM br deep xs ps with
      | .error e => .error e
      | .ok (ps', xs') => partsL br deep f xs' ps'
/-- Parts, with so many braces that may still begin. -/
def partsM : Nat → List Nat → Res (List Pt)
  | 0, xs => partsL (bracesM true fun _ => .error 0) true (xs.length + 1) xs []
  | d + 1, xs => partsL (bracesM false (partsM d)) (decide (d < 19)) (xs.length + 1) xs []

def signs : List (List Nat) := [[38, 38], [124, 124], [59, 59], [62, 62], [59], [124], [40], [41], [62], [60], [10]]
def signM : List (List Nat) → List Nat → Option (List Nat × List Nat)
  | [], _ => none
  | p :: r, xs => match takes p xs with
    | some ys => some (p, ys)
    | none => signM r xs
def skipM (xs : List Nat) : List Nat :=
  if next (left (fun r => r != 32 && r != 9) xs) = 35 then left (fun r => r == 10) (left (fun r => r != 32 && r != 9) xs) else left (fun r => r != 32 && r != 9) xs
/-- A token that is no end, and stands at so many bytes. -/
def tokenM (n : Nat) (xs : List Nat) : Res Tk :=
  match signM signs xs with
  | some (p, r) => .ok (⟨2, enc p, [], n⟩, r)
  | none =>
    if next xs = 38 then .error 2
    else match partsM 20 xs with
      | .error e => .error e
      | .ok (ps, r) => .ok (⟨1, [], ps, n⟩, r)
/-- Tokens: those of a text that is of so many bytes; or where an error is, and which. -/
def tokensL (sz : Nat) : Nat → List Nat → List Tk → Except (Nat × Nat) (List Tk)
  | 0, _, _ => .error (0, 0)
  | f + 1, xs, l =>
    if skipM xs = [] then .ok (l ++ [⟨3, [], [], sz⟩])
    else match tokenM (sz - (enc (skipM xs)).length) (skipM xs) with
      | .error e => .error (sz - (enc (skipM xs)).length, e)
      | .ok (t, r) => tokensL sz f r (l ++ [t])
def tokensM (xs : List Nat) : Except (Nat × Nat) (List Tk) := tokensL (enc xs).length (xs.length + 1) xs []

/-! ### what is taken -/
theorem eb_length (c : Nat) : 1 ≤ (eb c).length ∧ (eb c).length ≤ 4 := by
  unfold eb
  repeat' split
  all_goals simp
theorem enc_length : ∀ l : List Nat, l.length ≤ (enc l).length ∧ (enc l).length ≤ 4 * l.length
  | [] => by simp [enc]
  | c :: r => by
    have h := eb_length c
    have ih := enc_length r
    simp only [enc, List.length_append, List.length_cons]
    omega
theorem enc_append : ∀ a b : List Nat, enc (a ++ b) = enc a ++ enc b
  | [], _ => rfl
  | c :: r, b => by simp [enc, enc_append r b, List.append_assoc]
theorem got_left (S : Nat → Bool) : ∀ l : List Nat, got S l ++ left S l = l
  | [] => rfl
  | c :: r => by
    unfold got left
    cases S c with
    | true => rfl
    | false => simp [got_left S r]
theorem got_length (S : Nat → Bool) (l : List Nat) : (got S l).length + (left S l).length = l.length := by
  have h := congrArg List.length (got_left S l)
  rwa [List.length_append] at h
theorem left_head (S : Nat → Bool) : ∀ l : List Nat, left S l = [] ∨ S (next (left S l)) = true
  | [] => .inl rfl
  | c :: r => by
    unfold left
    cases h : S c with
    | true => right; simpa [next] using h
    | false => simpa using left_head S r
theorem left_lt (S : Nat → Bool) (c : Nat) (r : List Nat) (h : S c = false) : (left S (c :: r)).length < (c :: r).length := by
  have := got_length S r
  unfold left
  rw [h]
  simp; omega
theorem got_nil (S : Nat → Bool) : got S [] = [] := rfl
theorem takes_length : ∀ (p xs ys : List Nat), takes p xs = some ys → xs = p ++ ys
  | [], xs, ys, h => by simp [takes] at h; simp [h]
  | _ :: _, [], ys, h => by simp [takes] at h
  | p :: ps, x :: xs, ys, h => by
    unfold takes at h
    by_cases e : p = x
    · rw [if_pos e] at h
      rw [e, takes_length ps xs ys h]; rfl
    · rw [if_neg e] at h; cases h
theorem takes_one (c : Nat) (xs : List Nat) : takes [c] xs = if next xs = c ∧ xs ≠ [] then some xs.tail else none := by
  cases xs with
  | nil => simp [takes]
  | cons x r =>
    unfold takes
    by_cases e : c = x
    · simp [e, next, takes]
    · rw [if_neg e, if_neg]; intro h; exact e h.1.symm

/-- The letters that are left of so many. -/
def Suf (xs ys : List Nat) : Prop := ∃ l, xs = l ++ ys
theorem Suf.refl (xs : List Nat) : Suf xs xs := ⟨[], rfl⟩
theorem Suf.trans {a b c : List Nat} (h : Suf a b) (k : Suf b c) : Suf a c := by
  obtain ⟨l, rfl⟩ := h
  obtain ⟨m, rfl⟩ := k
  exact ⟨l ++ m, (List.append_assoc _ _ _).symm⟩
theorem Suf.len {a b : List Nat} (h : Suf a b) : b.length ≤ a.length := by
  obtain ⟨l, rfl⟩ := h
  simp
theorem Suf.tail (a : List Nat) : Suf a a.tail := by
  cases a with
  | nil => exact Suf.refl _
  | cons c r => exact ⟨[c], rfl⟩
theorem Suf.left (S : Nat → Bool) (a : List Nat) : Suf a (left S a) := ⟨got S a, (got_left S a).symm⟩
theorem Suf.takes {p a b : List Nat} (h : takes p a = some b) : Suf a b := ⟨p, takes_length p a b h⟩
theorem Suf.good {a b : List Nat} (h : Suf a b) (hg : ∀ c ∈ a, GoodL c) : ∀ c ∈ b, GoodL c := by
  obtain ⟨l, rfl⟩ := h
  exact fun c hc => hg c (List.mem_append_right _ hc)

/-! ### how long -/
/-- Parts that are made of letters taken so far: so few, so short. -/
def Fits (xs : List Nat) (ps : List Pt) : Prop := ps.length + xs.length ≤ 4000 ∧ ∀ p ∈ ps, p.text.length + 4 * xs.length ≤ 16000
theorem Fits.nil (xs : List Nat) (h : xs.length ≤ 4000) : Fits xs [] := ⟨by simpa using h, fun _ h => by cases h⟩
theorem Fits.mono {xs ys : List Nat} {ps : List Pt} (h : Fits xs ps) (hl : ys.length ≤ xs.length) : Fits ys ps := ⟨by have := h.1; omega, fun p hp => by have := h.2 p hp; omega⟩
theorem Fits.add {xs ys : List Nat} {ps : List Pt} (h : Fits xs ps) {p : Pt} (hl : ys.length + 1 ≤ xs.length) (ht : p.text.length + 4 * ys.length ≤ 16000) : Fits ys (ps ++ [p]) :=
  ⟨by have := h.1; rw [List.length_append, List.length_singleton]; omega, fun x hx => by
    rcases List.mem_append.1 hx with hx | hx
    · have := h.2 x hx; omega
    · obtain rfl : x = p := by simpa using hx
      exact ht⟩
theorem Fits.lit {xs ys : List Nat} {ps : List Pt} (h : Fits xs ps) (t : List UInt8) (q : Bool) (hl : ys.length + 1 ≤ xs.length) (ht : t.length + 4 * ys.length ≤ 4 * xs.length) : Fits ys (lit ps t q) := by
  have h0 := h.1
  rcases List.eq_nil_or_concat ps with rfl | ⟨r, p, rfl⟩
  · exact ⟨by simp [LexMath.lit]; omega, fun x hx => by
      obtain rfl : x = _ := by simpa [LexMath.lit] using hx
      simp only
      omega⟩
  · rw [List.concat_eq_append] at h ⊢
    rw [lit_last]
    have hp := h.2 p (by simp)
    split
    · refine ⟨by have := h.1; simp at this ⊢; omega, fun x hx => ?_⟩
      rcases List.mem_append.1 hx with hx | hx
      · have := h.2 x (by simp [hx]); omega
      · obtain rfl : x = _ := by simpa using hx
        simp only [List.length_append]
        omega
    · exact Fits.add h hl (by simp only; omega)
end Go.Proofs.YtakceggnadagmaaGreatDoor.LexMath

namespace Go.Proofs.YtakceggnadagmaaGreatDoor.TreeMath
open Go Go.Lib GlyphMath LexMath

/-- Bytes as a text. -/
abbrev T (l : List UInt8) : ByteArray := ⟨l.toArray⟩
theorem T_data (s : ByteArray) : T s.data.toList = s := rfl
theorem T_size (l : List UInt8) : (T l).size = l.length := rfl

def metaB : List UInt8 := [32, 9, 10, 59, 38, 124, 40, 41, 60, 62, 39, 34, 36, 92]
def metaW : List UInt8 := [39, 34, 36, 92, 125]
def anyIn (l cs : List UInt8) : Bool := l.any fun c => cs.contains c
def nameT (l : List UInt8) : Bool := nameL (letters (T l))
def textT (l : List UInt8) : Bool := isText (T l)
def otherT : List UInt8 → Bool
  | [c] => [49, 50, 51, 52, 53, 54, 55, 56, 57, 64, 35, 63].contains c
  | _ => false
def reckB : List UInt8 := [32, 9, 43, 45, 42, 47, 37, 40, 41, 60, 62, 61, 33]
def reckT (c : UInt8) : Bool := moreR (c.toNat : Int) || reckB.contains c
def arithT : List UInt8 → Nat → Bool
  | [], n => n == 0
  | c :: r, n => if c = 40 then arithT r (n + 1) else if c = 41 then n != 0 && arithT r (n - 1) else reckT c && arithT r n

def litT (within : Bool) (p : Pt) : Bool := textT p.text && (p.q || (!p.text.isEmpty && !anyIn p.text (if within then metaW else metaB)))
def varT (row : List Pt → Bool) (p : Pt) : Bool :=
  if nameT p.text || otherT p.text then
    if p.op = [] then p.word.isEmpty
    else if p.op = [35] then nameT p.text && p.word.isEmpty
    else if p.op = [58, 61] then nameT p.text && row p.word
    else if p.op = [58, 45] then row p.word
    else if p.op = [58, 43] then row p.word
    else false
  else false
def partT (row : List Pt → Bool) (within : Bool) (p : Pt) : Bool :=
  if p.kind = 1 then p.op.isEmpty && (p.word.isEmpty && litT within p)
  else if p.kind = 2 then varT row p
  else if p.kind = 3 then p.op.isEmpty && (p.word.isEmpty && arithT p.text 0)
  else false
def oneT (a b : Pt) : Bool := a.kind == 1 && (b.kind == 1 && a.q == b.q)
/-- Parts side by side, behind one, or none. -/
def sideT (f : Pt → Bool) : Option Pt → List Pt → Bool
  | _, [] => true
  | a, p :: r => f p && (!(a.any fun x => oneT x p) && sideT f (some p) r)
/-- By how many Words may still be. -/
def rowT : Nat → List Pt → Bool
  | 0, _ => false
  | k + 1, ps => sideT (partT (rowT k) (decide (k < 20))) none ps
def wordT (ps : List Pt) : Bool := !ps.isEmpty && rowT 21 ps

def bareT (p : Pt) : Bool := p.kind == 1 && !p.q
def openT : List Pt → List UInt8
  | [] => []
  | p :: _ => if bareT p then p.text else []
def plainT : List Pt → Option (List UInt8)
  | [p] => if bareT p then some p.text else none
  | _ => none
def hashT : List UInt8 → Bool
  | c :: _ => c == 35
  | [] => false
def bareW (ps : List Pt) : Bool := wordT ps && !hashT (openT ps)
/-- What is ahead of the first '='. -/
def aheadT : List UInt8 → Option (List UInt8)
  | [] => none
  | c :: r => if c = 61 then some [] else (aheadT r).map (c :: ·)
def givesT (ps : List Pt) : Bool := match aheadT (openT ps) with
  | some n => nameT n
  | none => false
def reservedL : List (List UInt8) := [[105, 102], [116, 104, 101, 110], [101, 108, 105, 102], [101, 108, 115, 101], [102, 105], [119, 104, 105, 108, 101], [117, 110, 116, 105, 108], [100, 111], [100, 111, 110, 101], [102, 111, 114], [105, 110], [99, 97, 115, 101], [101, 115, 97, 99], [123], [125], [33]]
def reservedT (l : List UInt8) : Bool := reservedL.contains l

/-- A node. -/
structure Nd where
  op : List UInt8
  name : List UInt8
  kids : List Int
  words : List (List Pt)
  pats : List (List (List Pt))
  assigns : List (List UInt8 × List Pt)
  redirs : List (List UInt8 × List Pt)

/-- What nodes of an Op have. -/
structure Sh where
  op : List UInt8
  k0 : Int
  k1 : Int
  w0 : Int
  w1 : Int
  name : Bool
  pats : Bool
  assigns : Bool
  redirs : Bool
def shapesL : List Sh := [
  ⟨[99, 109, 100], 0, 0, 0, 9223372036854775807, false, false, true, true⟩,
  ⟨[115, 101, 113], 2, 9223372036854775807, 0, 0, false, false, false, false⟩,
  ⟨[97, 110, 100], 2, 2, 0, 0, false, false, false, false⟩,
  ⟨[111, 114], 2, 2, 0, 0, false, false, false, false⟩,
  ⟨[110, 111, 116], 1, 1, 0, 0, false, false, false, false⟩,
  ⟨[112, 105, 112, 101], 2, 9223372036854775807, 0, 0, false, false, false, false⟩,
  ⟨[105, 102], 2, 3, 0, 0, false, false, false, true⟩,
  ⟨[119, 104, 105, 108, 101], 2, 2, 0, 0, false, false, false, true⟩,
  ⟨[117, 110, 116, 105, 108], 2, 2, 0, 0, false, false, false, true⟩,
  ⟨[102, 111, 114], 1, 1, 0, 9223372036854775807, true, false, false, true⟩,
  ⟨[99, 97, 115, 101], 0, 9223372036854775807, 1, 1, false, true, false, true⟩,
  ⟨[102, 117, 110], 1, 1, 0, 0, true, false, false, false⟩,
  ⟨[103, 114, 111, 117, 112], 1, 1, 0, 0, false, false, false, true⟩,
  ⟨[115, 117, 98], 1, 1, 0, 0, false, false, false, true⟩]
def hasT (a b n : Int) : Bool := decide (a ≤ n) && decide (n ≤ b)
def shapeT (s : Sh) (n : Nd) : Bool :=
  hasT s.k0 s.k1 n.kids.length && (hasT s.w0 s.w1 n.words.length && ((s.name == !n.name.isEmpty) && ((n.pats.length == (if s.pats then n.kids.length else 0)) && ((s.assigns || n.assigns.isEmpty) && (s.redirs || n.redirs.isEmpty)))))
def fitsT (n : Nd) : Bool := match shapesL.find? (fun s => s.op == n.op) with
  | some s => shapeT s n
  | none => false
def commandT (n : Nd) : Bool := match n.words with
  | [] => !n.assigns.isEmpty || !n.redirs.isEmpty
  | w :: _ => !givesT w && (!n.assigns.isEmpty || (match plainT w with | none => true | some t => !reservedT t))
def assignT (a : List UInt8 × List Pt) : Bool := nameT a.1 && wordT a.2
def redirT (r : List UInt8 × List Pt) : Bool := (r.1 == [60] || (r.1 == [62] || r.1 == [62, 62])) && bareW r.2
def patT (l : List (List Pt)) : Bool := !l.isEmpty && l.all bareW
def beginT (n : Nd) : Bool := if n.op = [99, 109, 100] then commandT n else if n.op = [102, 117, 110] then !reservedT n.name else true
def spellsT (n : Nd) : Bool := beginT n && ((n.name.isEmpty || nameT n.name) && (n.words.all bareW && (n.pats.all patT && (n.assigns.all assignT && n.redirs.all redirT))))
def rankT (op : List UInt8) : Int := if op = [115, 101, 113] then 4 else if op = [97, 110, 100] then 3 else if op = [111, 114] then 3 else if op = [110, 111, 116] then 2 else if op = [112, 105, 112, 101] then 1 else 0
def takesT (n : Nd) (i : Nat) (k : Nd) : Bool :=
  if n.op = [102, 117, 110] then (k.op == [103, 114, 111, 117, 112] || k.op == [115, 117, 98]) && k.redirs.isEmpty
  else if (n.op = [97, 110, 100] ∨ n.op = [111, 114]) ∧ i = 0 then decide (rankT k.op ≤ rankT n.op)
  else rankT n.op == 0 || decide (rankT k.op < rankT n.op)

/-- A node's kids, each in its turn: what comes next behind them. -/
def kidsT (walk : Int → Nat → Option Nat) (ns : List Nd) (n : Nd) : Nat → List Int → Nat → Option Nat
  | _, [], next => some next
  | i, k :: ks, next => match walk k next with
    | none => none
    | some m => match ns[k.toNat]? with
      | none => none
      | some kd => if takesT n i kd then kidsT walk ns n (i + 1) ks m else none
/-- The node of that number comes next, it and all below it are as they must be: what comes next behind it. -/
def walkT (ns : List Nd) : Nat → Int → Nat → Option Nat
  | 0, _, _ => none
  | f + 1, k, next => if k = next then match ns[next]? with
      | none => none
      | some n => if fitsT n && spellsT n then kidsT (walkT ns f) ns n 0 n.kids (next + 1) else none
    else none
def isT (ns : List Nd) (root : Int) : Bool := decide (ns.length ≤ 200) && (walkT ns ns.length root 0 == some ns.length)
end Go.Proofs.YtakceggnadagmaaGreatDoor.TreeMath

namespace Go.Proofs.YtakceggnadagmaaGreatDoor.ParseMath
open Go Go.Lib GlyphMath LexMath TreeMath

/-- Where a parser stands: the tokens that are left, the end last of all; the first error and its place. -/
structure PS where
  ts : List Tk
  at_ : Nat
  err : Nat
/-- A node with its kids. -/
inductive Tr
  | mk (n : Nd) (kids : List Tr)
def Tr.node : Tr → Nd
  | .mk n _ => n
def Tr.kids : Tr → List Tr
  | .mk _ l => l
def nd0 : Nd := ⟨[], [], [], [], [], [], []⟩
def tr0 : Tr := .mk nd0 []
def trOf (op : List UInt8) (l : List Tr) : Tr := .mk { nd0 with op := op } l
def several (op : List UInt8) : List Tr → Tr
  | [t] => t
  | l => trOf op l

def tkEnd : Tk := ⟨3, [], [], 0⟩
def textK (t : Tk) : List UInt8 := if t.kind = 1 then (plainT t.word).getD [] else t.text
def PS.hd (S : PS) : Tk := S.ts.headD tkEnd
def PS.tx (S : PS) : List UInt8 := textK S.hd
def PS.is (S : PS) (s : List UInt8) : Bool := S.tx == s
def PS.take (S : PS) : PS := if S.hd.kind = 3 then S else { S with ts := S.ts.tail }
def PS.fail (S : PS) (e : Nat) : PS := ⟨S.ts.drop (S.ts.length - 1), if S.err = 0 then S.hd.at_ else S.at_, if S.err = 0 then e else S.err⟩
def PS.takes (S : PS) (s : List UInt8) : Bool × PS := if S.is s then (true, S.take) else (false, S)
def PS.need (S : PS) (s : List UInt8) : PS := if S.is s then S.take else S.fail 2
def PS.isWord (S : PS) : Bool := S.hd.kind == 1
def PS.want (S : PS) (b : Bool) : PS := if b then S else S.fail 2
def PS.word (S : PS) : List Pt × PS := ((S.want S.isWord).hd.word, (S.want S.isWord).take)
def PS.isName (S : PS) : Bool := nameT S.tx
def PS.name (S : PS) : List UInt8 × PS := ((S.want S.isName).tx, (S.want S.isName).take)

def linesL : Nat → PS → PS
  | 0, S => S
  | f + 1, S => if S.is [10] then linesL f S.take else S
def PS.lines (S : PS) : PS := linesL S.ts.length S
def PS.sep (S : PS) : Bool × PS := if S.is [59] || S.is [10] then (true, S.take.lines) else (false, S)
def endsL : List (List UInt8) := [[41], [59, 59], [125], [116, 104, 101, 110], [101, 108, 105, 102], [101, 108, 115, 101], [102, 105], [100, 111], [100, 111, 110, 101]]
def PS.ends (S : PS) : Bool := endsL.contains S.tx || S.hd.kind == 3

abbrev Do := PS → Tr × PS
def pipeL (cmd : Do) : Nat → List Tr → PS → List Tr × PS
  | 0, l, S => (l, S)
  | f + 1, l, S => if S.is [124] then pipeL cmd f (l ++ [(cmd S.take.lines).1]) (cmd S.take.lines).2 else (l, S)
def pipeM (cmd : Do) (S : PS) : Tr × PS :=
  let b := S.takes [33]
  let r := cmd b.2
  let q := pipeL cmd r.2.ts.length [r.1] r.2
  (if b.1 then trOf [110, 111, 116] [several [112, 105, 112, 101] q.1] else several [112, 105, 112, 101] q.1, q.2)
def andorL (cmd : Do) : Nat → Tr → PS → Tr × PS
  | 0, n, S => (n, S)
  | f + 1, n, S =>
    if S.is [38, 38] then andorL cmd f (trOf [97, 110, 100] [n, (pipeM cmd S.take.lines).1]) (pipeM cmd S.take.lines).2
    else if S.is [124, 124] then andorL cmd f (trOf [111, 114] [n, (pipeM cmd S.take.lines).1]) (pipeM cmd S.take.lines).2
    else (n, S)
def andorM (cmd : Do) (S : PS) : Tr × PS := andorL cmd (pipeM cmd S).2.ts.length (pipeM cmd S).1 (pipeM cmd S).2
def listL (cmd : Do) : Nat → List Tr → PS → List Tr × PS
  | 0, l, S => (l, S)
  | f + 1, l, S => if S.sep.1 && !S.sep.2.ends then listL cmd f (l ++ [(andorM cmd S.sep.2).1]) (andorM cmd S.sep.2).2 else (l, S.sep.2)
def listM (cmd : Do) (S : PS) : Tr × PS :=
  let r := andorM cmd S.lines
  let q := listL cmd r.2.ts.length [r.1] r.2
  (several [115, 101, 113] q.1, q.2)

def PS.isRedir (S : PS) : Bool := S.is [60] || (S.is [62] || S.is [62, 62])
def redirM (S : PS) : (List UInt8 × List Pt) × PS := ((S.hd.text, S.take.word.1), S.take.word.2)
/-- What is behind the first '='. -/
def restT : List UInt8 → List UInt8
  | [] => []
  | c :: r => if c = 61 then r else restT r
def assignO : List Pt → Option (List UInt8 × List Pt)
  | [] => none
  | p :: r => if bareT p then match aheadT p.text with
      | none => none
      | some n => if nameT n then
          some (n, if restT p.text = [] ∧ r = [] then [⟨1, [], [], [], true⟩] else if restT p.text = [] then r else ⟨1, restT p.text, [], [], false⟩ :: r)
        else none
    else none
def pushWord (n : Nd) (S : PS) : Nd × PS := ({ n with words := n.words ++ [S.word.1] }, S.word.2)
def partM (n : Nd) (S : PS) : Nd × PS :=
  if n.words.isEmpty then match assignO S.hd.word with
    | some a => ({ n with assigns := n.assigns ++ [a] }, S.take)
    | none => if n.assigns.isEmpty && reservedT S.tx then (n, S.fail 2) else pushWord n S
  else pushWord n S
def simpleL : Nat → Nd → PS → Nd × PS
  | 0, n, S => (n, S)
  | f + 1, n, S =>
    if S.isRedir then simpleL f { n with redirs := n.redirs ++ [(redirM S).1] } (redirM S).2
    else if S.isWord then simpleL f (partM n S).1 (partM n S).2
    else (n, S)
def simpleM (S : PS) : Tr × PS :=
  let S1 := S.want (S.isWord || S.isRedir)
  let r := simpleL S1.ts.length { nd0 with op := [99, 109, 100] } S1
  (.mk r.1 [], r.2)

def enclosedM (cmd : Do) (op closing : List UInt8) (S : PS) : Tr × PS := (trOf op [(listM cmd S.take).1], (listM cmd S.take).2.need closing)
def branchM (cmd br : Do) (S : PS) : Tr × PS :=
  let a := listM cmd S.take
  let b := listM cmd (a.2.need [116, 104, 101, 110])
  if b.2.is [101, 108, 105, 102] then (trOf [105, 102] [a.1, b.1, (br b.2).1], (br b.2).2)
  else if b.2.is [101, 108, 115, 101] then (trOf [105, 102] [a.1, b.1, (listM cmd b.2.take).1], (listM cmd b.2.take).2.need [102, 105])
  else (trOf [105, 102] [a.1, b.1], b.2.need [102, 105])
def bodyM (cmd : Do) (S : PS) : Tr × PS := ((listM cmd (S.need [100, 111])).1, (listM cmd (S.need [100, 111])).2.need [100, 111, 110, 101])
def loopM (cmd : Do) (op : List UInt8) (S : PS) : Tr × PS := (trOf op [(listM cmd S.take).1, (bodyM cmd (listM cmd S.take).2).1], (bodyM cmd (listM cmd S.take).2).2)
def wordsL : Nat → List (List Pt) → PS → List (List Pt) × PS
  | 0, l, S => (l, S)
  | f + 1, l, S => if S.isWord then wordsL f (l ++ [S.word.1]) S.word.2 else (l, S)
def eachM (cmd : Do) (S : PS) : Tr × PS :=
  let nm := S.take.name
  let S1 := nm.2.need [105, 110]
  let ws := wordsL S1.ts.length [] S1
  let b := bodyM cmd ws.2.sep.2
  (.mk { nd0 with op := [102, 111, 114], name := nm.1, words := ws.1 } [b.1], b.2)
def patsL : Nat → List (List Pt) → PS → List (List Pt) × PS
  | 0, l, S => (l, S)
  | f + 1, l, S => if S.is [124] then patsL f (l ++ [S.take.word.1]) S.take.word.2 else (l, S)
def patsM (S : PS) : List (List Pt) × PS :=
  let r := (S.takes [40]).2.word
  let q := patsL r.2.ts.length [r.1] r.2
  (q.1, q.2.need [41])
structure Cs where
  pats : List (List (List Pt))
  kids : List Tr
  st : PS
def choiceL (cmd : Do) : Nat → List (List (List Pt)) → List Tr → PS → Cs
  | 0, ps, l, S => ⟨ps, l, S⟩
  | f + 1, ps, l, S =>
    if S.is [101, 115, 97, 99] || S.hd.kind == 3 then ⟨ps, l, S⟩
    else choiceL cmd f (ps ++ [(patsM S).1]) (l ++ [(listM cmd (patsM S).2).1]) ((listM cmd (patsM S).2).2.need [59, 59]).lines
def choiceM (cmd : Do) (S : PS) : Tr × PS :=
  let w := S.take.word
  let S1 := (w.2.need [105, 110]).lines
  let q := choiceL cmd S1.ts.length [] [] S1
  (.mk { nd0 with op := [99, 97, 115, 101], words := [w.1], pats := q.pats } q.kids, q.st.need [101, 115, 97, 99])
def compoundM (cmd br : Do) (S : PS) : Option (Tr × PS) :=
  if S.is [123] then some (enclosedM cmd [103, 114, 111, 117, 112] [125] S)
  else if S.is [40] then some (enclosedM cmd [115, 117, 98] [41] S)
  else if S.is [105, 102] then some (branchM cmd br S)
  else if S.is [119, 104, 105, 108, 101] then some (loopM cmd [119, 104, 105, 108, 101] S)
  else if S.is [117, 110, 116, 105, 108] then some (loopM cmd [117, 110, 116, 105, 108] S)
  else if S.is [102, 111, 114] then some (eachM cmd S)
  else if S.is [99, 97, 115, 101] then some (choiceM cmd S)
  else none
def PS.isFun (S : PS) : Bool := S.isName && (!reservedT S.tx && textK (S.ts.tail.headD tkEnd) == [40])
def funM (held : Do) (S : PS) : Tr × PS :=
  let nm := S.name
  let h := held ((nm.2.need [40]).need [41]).lines
  (.mk { nd0 with op := [102, 117, 110], name := nm.1 } [h.1], h.2)
def redirsL : Nat → Nd → PS → Nd × PS
  | 0, n, S => (n, S)
  | f + 1, n, S => if S.isRedir then redirsL f { n with redirs := n.redirs ++ [(redirM S).1] } (redirM S).2 else (n, S)
def redirsM (r : Tr × PS) : Tr × PS := (.mk (redirsL r.2.ts.length r.1.node r.2).1 r.1.kids, (redirsL r.2.ts.length r.1.node r.2).2)
def commandM (cmd br held : Do) (S : PS) : Tr × PS :=
  if S.isFun then funM held S
  else match compoundM cmd br S with
    | some r => redirsM r
    | none => simpleM S
def heldM (cmd : Do) (S : PS) : Tr × PS :=
  if S.is [123] then enclosedM cmd [103, 114, 111, 117, 112] [125] S
  else if S.is [40] then enclosedM cmd [115, 117, 98] [41] S
  else (tr0, S.fail 2)

/-- What is done where so many commands may still be within one another. -/
structure Lv where
  cmd : Do
  br : Do
  held : Do
def lv : Nat → Lv
  | 0 => ⟨fun S => simpleM (S.fail 3), fun S => (tr0, S), fun S => (tr0, S.fail 3)⟩
  | k + 1 => ⟨commandM (lv k).cmd (lv k).br (lv k).held, branchM (lv k).cmd (lv k).br, heldM (lv k).cmd⟩

mutual
/-- Nodes with a tree behind them. -/
def laidM : Tr → List Nd → List Nd
  | .mk n kids, l => laidL l.length kids (l ++ [n])
def laidL (at_ : Nat) : List Tr → List Nd → List Nd
  | [], l => l
  | t :: r, l => laidL at_ r (laidM t (l.modify at_ fun n => { n with kids := n.kids ++ [(l.length : Int)] }))
end
def scriptM (S : PS) : Tr × PS := ((listM (lv 20).cmd S).1, (listM (lv 20).cmd S).2.want ((listM (lv 20).cmd S).2.hd.kind == 3))
def parseM (ts : List Tk) : Except (Nat × Nat) (List Nd) :=
  let r := scriptM ⟨ts, 0, 0⟩
  if r.2.err ≠ 0 then .error (r.2.at_, r.2.err)
  else if 200 < (laidM r.1 []).length then .error (0, 3)
  else .ok (laidM r.1 [])
end Go.Proofs.YtakceggnadagmaaGreatDoor.ParseMath
