/-
  Proved: plain facts on a lexer by letters: what it takes, how long what it makes is. Conditions: as each says.
-/
import Derived.Test.YtloaalapkmbgeaaDoorGlyphMath
namespace Go.Proofs.YtloaalapkmbgeaaDoor.LexMath
open Go Go.Lib GlyphMath

/-- A letter's bytes. -/
def eb (c : Nat) : List UInt8 :=
  if c < 128 then [UInt8.ofNat c]
  else if c < 2048 then [UInt8.ofNat (192 + c / 64), UInt8.ofNat (128 + c % 64)]
  else if c < 65536 then [UInt8.ofNat (224 + c / 4096), UInt8.ofNat (128 + c / 64 % 64), UInt8.ofNat (128 + c % 64)]
  else [UInt8.ofNat (240 + c / 262144), UInt8.ofNat (128 + c / 4096 % 64), UInt8.ofNat (128 + c / 64 % 64), UInt8.ofNat (128 + c % 64)]
/-- Letters' bytes. -/
def enc : List Nat → List UInt8
  | [] => []
  | c :: r => eb c ++ enc r

/-- A part of a word. -/
structure Pt where
  kind : Int
  text : List UInt8
  op : List UInt8
  word : List Pt
  q : Bool
/-- A token. -/
structure Tk where
  kind : Int
  text : List UInt8
  word : List Pt
  at_ : Nat

/-- A letter that a text may have. -/
def GoodL (c : Nat) : Prop := 0 < c ∧ c ≤ 1114111 ∧ (c < 55296 ∨ 57343 < c)

def acts (r : Nat) : Bool := r == 34 || r == 36 || r == 92
def begins (r : Nat) : Bool := r == 39 || acts r
def ends (r : Nat) (deep : Bool) : Bool := if deep then r == 125 else blankR r || (r == 59 || r == 38 || r == 124 || r == 40 || r == 41 || r == 60 || r == 62)
def other (r : Nat) : Bool := decide (49 ≤ r ∧ r ≤ 57) || (r == 64 || r == 35 || r == 63)
def reckons (r : Nat) : Bool := moreR r || (r == 32 || r == 9 || r == 43 || r == 45 || r == 42 || r == 47 || r == 37 || r == 40 || r == 41 || r == 60 || r == 62 || r == 61 || r == 33)

def next : List Nat → Nat
  | [] => 0
  | c :: _ => c
def takes : List Nat → List Nat → Option (List Nat)
  | [], xs => some xs
  | _ :: _, [] => none
  | p :: ps, x :: xs => if p = x then takes ps xs else none
def got (S : Nat → Bool) : List Nat → List Nat
  | [] => []
  | c :: r => if S c then [] else c :: got S r
def left (S : Nat → Bool) : List Nat → List Nat
  | [] => []
  | c :: r => if S c then c :: r else left S r

/-- A Lit more. -/
def lit : List Pt → List UInt8 → Bool → List Pt
  | [], t, q => [⟨1, t, [], [], q⟩]
  | [p], t, q => if p.kind = 1 ∧ p.q = q then [{ p with text := p.text ++ t }] else [p, ⟨1, t, [], [], q⟩]
  | p :: p' :: r, t, q => p :: lit (p' :: r) t q
theorem lit_last (ps : List Pt) (p : Pt) (t : List UInt8) (q : Bool) : lit (ps ++ [p]) t q = if p.kind = 1 ∧ p.q = q then ps ++ [{ p with text := p.text ++ t }] else ps ++ [p] ++ [⟨1, t, [], [], q⟩] := by
  induction ps with
  | nil => simp only [List.nil_append, lit]; split <;> simp
  | cons a r ih =>
    cases r with
    | nil => simp only [List.cons_append, List.nil_append, lit]; split <;> rfl
    | cons b r => simp only [List.cons_append, lit] at ih ⊢; rw [ih]; split <;> simp

abbrev Res (α : Type) := Except Nat (α × List Nat)

def escapedM (xs : List Nat) (ps : List Pt) : Res (List Pt) :=
  match xs.tail with
  | [] => .error 2
  | c :: r => .ok (lit ps (enc [c]) true, r)
def singleM (xs : List Nat) (ps : List Pt) : Res (List Pt) :=
  match takes [39] (left (fun r => r == 39) xs.tail) with
  | none => .error 2
  | some r => .ok (lit ps (enc (got (fun r => r == 39) xs.tail)) true, r)
def escapedWithinM (xs : List Nat) (ps : List Pt) : Res (List Pt) :=
  match xs.tail with
  | [] => .error 2
  | c :: r => .ok (lit (if acts c then ps else lit ps [92] true) (enc [c]) true, r)
def parameterM (xs : List Nat) : Res (List Nat) :=
  if other (next xs) then .ok ([next xs], xs.tail)
  else if nameL (got (fun r => !moreR r) xs) then .ok (got (fun r => !moreR r) xs, left (fun r => !moreR r) xs)
  else .error 2
def opM (name : Bool) (xs : List Nat) : Option (List UInt8 × List Nat) :=
  match takes [58, 45] xs with
  | some r => some ([58, 45], r)
  | none => match takes [58, 43] xs with
    | some r => some ([58, 43], r)
    | none => if name then (match takes [58, 61] xs with
      | some r => some ([58, 61], r)
      | none => none) else none
def closeM (p : Pt) (xs : List Nat) : Res Pt :=
  match takes [125] xs with
  | some r => .ok (p, r)
  | none => .error 2
def operationM (parts : List Nat → Res (List Pt)) (l : List Nat) (xs : List Nat) : Res Pt :=
  if l = [35] ∧ firstR (next xs) = true then
    match parameterM xs with
    | .error e => .error e
    | .ok (l', r) => .ok (⟨2, enc l', [35], [], false⟩, r)
  else match opM (nameL l) xs with
    | none => .error 2
    | some (o, r) => match parts r with
      | .error e => .error e
      | .ok (w, r') => .ok (⟨2, enc l, o, w, false⟩, r')
def bracesM (lim : Bool) (parts : List Nat → Res (List Pt)) (xs : List Nat) : Res Pt :=
  if lim then .error 3 else
  match parameterM xs with
  | .error e => .error e
  | .ok (l, r) =>
    if next r = 125 then closeM ⟨2, enc l, [], [], false⟩ r
    else match operationM parts l r with
      | .error e => .error e
      | .ok (p, r') => closeM p r'
def arithM : List Nat → Nat → List Nat → Res (List Nat)
  | [], _, _ => .error 2
  | c :: r, n, acc =>
    if n = 0 ∧ c = 41 then (if next r = 41 then .ok (acc, r.tail) else .error 2)
    else if reckons c then arithM r (if c = 40 then n + 1 else if c = 41 then n - 1 else n) (acc ++ [c])
    else .error 2
def dollarM (br : List Nat → Res Pt) (q : Bool) (xs : List Nat) (ps : List Pt) : Res (List Pt) :=
  match takes [123] xs.tail with
  | some r => match br r with
    | .error e => .error e
    | .ok (p, r') => .ok (ps ++ [{ p with q := q }], r')
  | none => match takes [40, 40] xs.tail with
    | some r => match arithM r 0 [] with
      | .error e => .error e
      | .ok (l, r') => .ok (ps ++ [⟨3, enc l, [], [], q⟩], r')
    | none =>
      if firstR (next xs.tail) || other (next xs.tail) then
        match parameterM xs.tail with
        | .error e => .error e
        | .ok (l, r') => .ok (ps ++ [⟨2, enc l, [], [], q⟩], r')
      else .ok (lit ps [36] true, xs.tail)
def withinM (br : List Nat → Res Pt) (xs : List Nat) (ps : List Pt) : Res (List Pt) :=
  if next xs = 0 then .error 2
  else if next xs = 92 then escapedWithinM xs ps
  else if next xs = 36 then dollarM br true xs ps
  else .ok (lit ps (enc (got acts xs)) true, left acts xs)
def doubleL (br : List Nat → Res Pt) : Nat → List Nat → List Pt → Res (List Pt)
  | 0, _, _ => .error 0
  | f + 1, xs, ps =>
    match takes [34] xs with
    | some r => .ok (ps, r)
    | none => match withinM br xs ps with
      | .error e => .error e
      | .ok (ps', xs') => doubleL br f xs' ps'
def doubleM (br : List Nat → Res Pt) (xs : List Nat) (ps : List Pt) : Res (List Pt) :=
  doubleL br (xs.length + 1) xs.tail (if next xs.tail = 34 then lit ps [] true else ps)
def partM (br : List Nat → Res Pt) (deep : Bool) (xs : List Nat) (ps : List Pt) : Res (List Pt) :=
  if next xs = 92 then escapedM xs ps
  else if next xs = 39 then singleM xs ps
  else if next xs = 34 then doubleM br xs ps
  else if next xs = 36 then dollarM br false xs ps
  else .ok (lit ps (enc (got (fun r => begins r || ends r deep) xs)) false, left (fun r => begins r || ends r deep) xs)
def partsL (br : List Nat → Res Pt) (deep : Bool) : Nat → List Nat → List Pt → Res (List Pt)
  | 0, _, _ => .error 0
  | f + 1, xs, ps =>
    if next xs = 0 ∨ ends (next xs) deep = true then .ok (ps, xs)
    else match partM br deep xs ps with
      | .error e => .error e
      | .ok (ps', xs') => partsL br deep f xs' ps'
/-- Parts, with so many braces that may still begin. -/
def partsM : Nat → List Nat → Res (List Pt)
  | 0, xs => partsL (bracesM true fun _ => .error 0) true (xs.length + 1) xs []
  | d + 1, xs => partsL (bracesM false (partsM d)) (decide (d < 19)) (xs.length + 1) xs []

def signs : List (List Nat) := [[38, 38], [124, 124], [59, 59], [62, 62], [59], [124], [40], [41], [62], [60], [10]]
def signM : List (List Nat) → List Nat → Option (List Nat × List Nat)
  | [], _ => none
  | p :: r, xs => match takes p xs with
    | some ys => some (p, ys)
    | none => signM r xs
def skipM (xs : List Nat) : List Nat :=
  if next (left (fun r => r != 32 && r != 9) xs) = 35 then left (fun r => r == 10) (left (fun r => r != 32 && r != 9) xs) else left (fun r => r != 32 && r != 9) xs
/-- A token that is no end, and stands at so many bytes. -/
def tokenM (n : Nat) (xs : List Nat) : Res Tk :=
  match signM signs xs with
  | some (p, r) => .ok (⟨2, enc p, [], n⟩, r)
  | none =>
    if next xs = 38 then .error 2
    else match partsM 20 xs with
      | .error e => .error e
      | .ok (ps, r) => .ok (⟨1, [], ps, n⟩, r)
/-- Tokens: those of a text that is of so many bytes; or where an error is, and which. -/
def tokensL (sz : Nat) : Nat → List Nat → List Tk → Except (Nat × Nat) (List Tk)
  | 0, _, _ => .error (0, 0)
  | f + 1, xs, l =>
    if skipM xs = [] then .ok (l ++ [⟨3, [], [], sz⟩])
    else match tokenM (sz - (enc (skipM xs)).length) (skipM xs) with
      | .error e => .error (sz - (enc (skipM xs)).length, e)
      | .ok (t, r) => tokensL sz f r (l ++ [t])
def tokensM (xs : List Nat) : Except (Nat × Nat) (List Tk) := tokensL (enc xs).length (xs.length + 1) xs []

/-! ### what is taken -/
theorem eb_length (c : Nat) : 1 ≤ (eb c).length ∧ (eb c).length ≤ 4 := by
  unfold eb
  repeat' split
  all_goals simp
theorem enc_length : ∀ l : List Nat, l.length ≤ (enc l).length ∧ (enc l).length ≤ 4 * l.length
  | [] => by simp [enc]
  | c :: r => by
    have h := eb_length c
    have ih := enc_length r
    simp only [enc, List.length_append, List.length_cons]
    omega
theorem enc_append : ∀ a b : List Nat, enc (a ++ b) = enc a ++ enc b
  | [], _ => rfl
  | c :: r, b => by simp [enc, enc_append r b, List.append_assoc]
theorem got_left (S : Nat → Bool) : ∀ l : List Nat, got S l ++ left S l = l
  | [] => rfl
  | c :: r => by
    unfold got left
    cases S c with
    | true => rfl
    | false => simp [got_left S r]
theorem got_length (S : Nat → Bool) (l : List Nat) : (got S l).length + (left S l).length = l.length := by
  have h := congrArg List.length (got_left S l)
  rwa [List.length_append] at h
theorem left_head (S : Nat → Bool) : ∀ l : List Nat, left S l = [] ∨ S (next (left S l)) = true
  | [] => .inl rfl
  | c :: r => by
    unfold left
    cases h : S c with
    | true => right; simpa [next] using h
    | false => simpa using left_head S r
theorem left_lt (S : Nat → Bool) (c : Nat) (r : List Nat) (h : S c = false) : (left S (c :: r)).length < (c :: r).length := by
  have := got_length S r
  unfold left
  rw [h]
  simp; omega
theorem got_nil (S : Nat → Bool) : got S [] = [] := rfl
theorem takes_length : ∀ (p xs ys : List Nat), takes p xs = some ys → xs = p ++ ys
  | [], xs, ys, h => by simp [takes] at h; simp [h]
  | _ :: _, [], ys, h => by simp [takes] at h
  | p :: ps, x :: xs, ys, h => by
    unfold takes at h
    by_cases e : p = x
    · rw [if_pos e] at h
      rw [e, takes_length ps xs ys h]; rfl
    · rw [if_neg e] at h; cases h
theorem takes_one (c : Nat) (xs : List Nat) : takes [c] xs = if next xs = c ∧ xs ≠ [] then some xs.tail else none := by
  cases xs with
  | nil => simp [takes]
  | cons x r =>
    unfold takes
    by_cases e : c = x
    · simp [e, next, takes]
    · rw [if_neg e, if_neg]; intro h; exact e h.1.symm

/-- The letters that are left of so many. -/
def Suf (xs ys : List Nat) : Prop := ∃ l, xs = l ++ ys
theorem Suf.refl (xs : List Nat) : Suf xs xs := ⟨[], rfl⟩
theorem Suf.trans {a b c : List Nat} (h : Suf a b) (k : Suf b c) : Suf a c := by
  obtain ⟨l, rfl⟩ := h
  obtain ⟨m, rfl⟩ := k
  exact ⟨l ++ m, (List.append_assoc _ _ _).symm⟩
theorem Suf.len {a b : List Nat} (h : Suf a b) : b.length ≤ a.length := by
  obtain ⟨l, rfl⟩ := h
  simp
theorem Suf.tail (a : List Nat) : Suf a a.tail := by
  cases a with
  | nil => exact Suf.refl _
  | cons c r => exact ⟨[c], rfl⟩
theorem Suf.left (S : Nat → Bool) (a : List Nat) : Suf a (left S a) := ⟨got S a, (got_left S a).symm⟩
theorem Suf.takes {p a b : List Nat} (h : takes p a = some b) : Suf a b := ⟨p, takes_length p a b h⟩
theorem Suf.good {a b : List Nat} (h : Suf a b) (hg : ∀ c ∈ a, GoodL c) : ∀ c ∈ b, GoodL c := by
  obtain ⟨l, rfl⟩ := h
  exact fun c hc => hg c (List.mem_append_right _ hc)

/-! ### how long -/
/-- Parts that are made of letters taken so far: so few, so short. -/
def Fits (xs : List Nat) (ps : List Pt) : Prop := ps.length + xs.length ≤ 4000 ∧ ∀ p ∈ ps, p.text.length + 4 * xs.length ≤ 16000
theorem Fits.nil (xs : List Nat) (h : xs.length ≤ 4000) : Fits xs [] := ⟨by simpa using h, fun _ h => by cases h⟩
theorem Fits.mono {xs ys : List Nat} {ps : List Pt} (h : Fits xs ps) (hl : ys.length ≤ xs.length) : Fits ys ps := ⟨by have := h.1; omega, fun p hp => by have := h.2 p hp; omega⟩
theorem Fits.add {xs ys : List Nat} {ps : List Pt} (h : Fits xs ps) {p : Pt} (hl : ys.length + 1 ≤ xs.length) (ht : p.text.length + 4 * ys.length ≤ 16000) : Fits ys (ps ++ [p]) :=
  ⟨by have := h.1; rw [List.length_append, List.length_singleton]; omega, fun x hx => by
    rcases List.mem_append.1 hx with hx | hx
    · have := h.2 x hx; omega
    · obtain rfl : x = p := by simpa using hx
      exact ht⟩
theorem Fits.lit {xs ys : List Nat} {ps : List Pt} (h : Fits xs ps) (t : List UInt8) (q : Bool) (hl : ys.length + 1 ≤ xs.length) (ht : t.length + 4 * ys.length ≤ 4 * xs.length) : Fits ys (lit ps t q) := by
  have h0 := h.1
  rcases List.eq_nil_or_concat ps with rfl | ⟨r, p, rfl⟩
  · exact ⟨by simp [LexMath.lit]; omega, fun x hx => by
      obtain rfl : x = _ := by simpa [LexMath.lit] using hx
      simp only
      omega⟩
  · rw [List.concat_eq_append] at h ⊢
    rw [lit_last]
    have hp := h.2 p (by simp)
    split
    · refine ⟨by have := h.1; simp at this ⊢; omega, fun x hx => ?_⟩
      rcases List.mem_append.1 hx with hx | hx
      · have := h.2 x (by simp [hx]); omega
      · obtain rfl : x = _ := by simpa using hx
        simp only [List.length_append]
        omega
    · exact Fits.add h hl (by simp only; omega)
end Go.Proofs.YtloaalapkmbgeaaDoor.LexMath
