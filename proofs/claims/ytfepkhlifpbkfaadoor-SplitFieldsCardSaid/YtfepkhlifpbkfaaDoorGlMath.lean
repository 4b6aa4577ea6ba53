/-
  Proved: plain facts on patterns as lists of letters: a bracket's items, pieces, a greedy match. Conditions: as each says.
-/
namespace Go.Proofs.YtfepkhlifpbkfaaDoor.GlMath

/-- A letter, Quoted or not. -/
abbrev Ch := Int × Bool
def isM (c : Ch) (x : Int) : Bool := c.1 == x && !c.2
def validM (r : Int) : Bool := (decide (0 ≤ r) && decide (r < 55296)) || (decide (57343 < r) && decide (r ≤ 1114111))
def letM (c : Ch) : Int := if validM c.1 then c.1 else 65533
/-- An item: from, to, how many letters. -/
def itemM : List Ch → Int × Int × Nat
  | a :: d :: b :: _ => if isM d 45 then (letM a, letM b, 3) else (letM a, letM a, 1)
  | a :: _ => (letM a, letM a, 1)
  | [] => (0, 0, 1)
/-- Is it one of the items? -/
def foundM : Nat → List Ch → Int → Bool
  | 0, _, _ => false
  | _ + 1, [], _ => false
  | f + 1, a :: l, r => if (itemM (a :: l)).1 ≤ r ∧ r ≤ (itemM (a :: l)).2.1 then true else foundM f ((a :: l).drop (itemM (a :: l)).2.2) r
structure Pc where
  many : Bool
  neg : Bool
  items : List Ch
deriving Inhabited
def takesM (p : Pc) (r : Int) : Bool := foundM p.items.length p.items r != p.neg

theorem item_size (l : List Ch) (h : l ≠ []) : 1 ≤ (itemM l).2.2 ∧ (itemM l).2.2 ≤ l.length := by
  match l, h with
  | [a], _ => simp [itemM]
  | [a, d], _ => simp [itemM]
  | a :: d :: b :: l, _ =>
    show 1 ≤ (if isM d 45 then (letM a, letM b, 3) else (letM a, letM a, 1)).2.2 ∧ (if isM d 45 then (letM a, letM b, 3) else (letM a, letM a, 1)).2.2 ≤ l.length + 1 + 1 + 1
    split
    · exact ⟨by show 1 ≤ 3; omega, by show 3 ≤ _; omega⟩
    · exact ⟨Nat.le_refl 1, by show 1 ≤ _; omega⟩

/-- Where the first ] is, but not at once. -/
def shutM : Nat → List Ch → Option Nat
  | _, [] => none
  | i, c :: l => if decide (0 < i) && isM c 93 then some i else shutM (i + 1) l
def negM : List Ch → Bool
  | [] => false
  | c :: _ => isM c 33
def withinM (p : List Ch) : List Ch := if negM (p.drop 1) then p.drop 2 else p.drop 1
def bracketM (p : List Ch) : Option (Pc × Nat) :=
  (shutM 0 (withinM p)).map fun i => (⟨false, negM (p.drop 1), (withinM p).take i⟩, p.length - (withinM p).length + i + 1)
theorem shut_le : ∀ (l : List Ch) (i k : Nat), shutM i l = some k → i ≤ k ∧ k < i + l.length
  | [], i, k, h => by simp [shutM] at h
  | c :: l, i, k, h => by
    unfold shutM at h
    split at h
    · simp only [Option.some.injEq] at h
      subst h; simp
    · have := shut_le l (i + 1) k h
      simp only [List.length_cons]; omega
theorem within_le (p : List Ch) : (withinM p).length ≤ p.length := by
  unfold withinM
  split <;> simp <;> omega
theorem bracket_size {p : List Ch} {b : Pc} {n : Nat} (h : bracketM p = some (b, n)) : 1 ≤ n ∧ n ≤ p.length := by
  unfold bracketM at h
  cases hs : shutM 0 (withinM p) with
  | none => rw [hs] at h; simp at h
  | some i =>
    rw [hs] at h
    simp only [Option.map_some, Option.some.injEq, Prod.mk.injEq] at h
    have h1 := shut_le _ _ _ hs
    have h2 := within_le p
    omega

/-- The first piece, how many letters, and whether a bracket that begins later may end. -/
def pieceM (e : Bool) (c : Ch) (l : List Ch) : Pc × Nat × Bool :=
  if isM c 42 then (⟨true, false, []⟩, 1, e)
  else if isM c 63 then (⟨false, true, []⟩, 1, e)
  else if isM c 91 && e then
    match bracketM (c :: l) with
    | some (b, n) => (b, n, e)
    | none => (⟨false, false, [c]⟩, 1, false)
  else (⟨false, false, [c]⟩, 1, e)
def piecesM : Nat → Bool → List Ch → List Pc
  | 0, _, _ => []
  | _ + 1, _, [] => []
  | f + 1, e, c :: l => (pieceM e c l).1 :: piecesM f (pieceM e c l).2.2 ((c :: l).drop (pieceM e c l).2.1)
theorem piece_size (e : Bool) (c : Ch) (l : List Ch) : 1 ≤ (pieceM e c l).2.1 ∧ (pieceM e c l).2.1 ≤ l.length + 1 := by
  unfold pieceM
  split
  · simp
  · split
    · simp
    · split
      · cases h : bracketM (c :: l) with
        | none => simp
        | some x =>
          obtain ⟨b, n⟩ := x
          have := bracket_size h
          simpa using this
      · simp
theorem pieces_length : ∀ (f : Nat) (e : Bool) (l : List Ch), (piecesM f e l).length ≤ l.length
  | 0, _, _ => by simp [piecesM]
  | _ + 1, _, [] => by simp [piecesM]
  | f + 1, e, c :: l => by
    have h1 := piece_size e c l
    have h2 := pieces_length f (pieceM e c l).2.2 ((c :: l).drop (pieceM e c l).2.1)
    simp only [piecesM, List.length_cons, List.length_drop] at *
    omega

/-- The greedy match: the last star, from where; the piece and the letter that are next. -/
def goM (l : List Pc) (s : List Int) : Nat → Int → Nat → Nat → Nat → Bool
  | 0, _, _, _, _ => false
  | f + 1, star, fr, at_, i =>
    if i < s.length then
      if at_ < l.length ∧ (l.getD at_ default).many = true then goM l s f at_ i (at_ + 1) i
      else if at_ < l.length ∧ takesM (l.getD at_ default) (s.getD i 0) = true then goM l s f star fr (at_ + 1) (i + 1)
      else if 0 ≤ star then goM l s f star (fr + 1) (star.toNat + 1) (fr + 1)
      else false
    else (l.drop at_).all (·.many)
/-- How many rounds are left at most. -/
def left (L n : Nat) (star : Int) (fr at_ : Nat) : Nat := ((L : Int) - star).toNat * (n * (L + 1) + (L + 1)) + (n - fr) * (L + 1) + (L - at_)
def matchM (l : List Pc) (s : List Int) : Bool := goM l s (left l.length s.length (-1) 0 0 + 1) (-1) 0 0 0
theorem left_star {L n i at_ fr : Nat} {star : Int} (h1 : star < at_) (h2 : at_ < L) : left L n at_ i (at_ + 1) < left L n star fr at_ := by
  unfold left
  obtain ⟨d, hd⟩ : ∃ d, ((L : Int) - star).toNat = ((L : Int) - at_).toNat + 1 + d := ⟨((L : Int) - star).toNat - ((L : Int) - at_).toNat - 1, by omega⟩
  rw [hd, Nat.add_mul, Nat.add_mul, Nat.one_mul]
  have h3 : (n - i) * (L + 1) ≤ n * (L + 1) := Nat.mul_le_mul_right _ (by omega)
  generalize (n - i) * (L + 1) = a at *
  generalize n * (L + 1) = b at *
  generalize ((L : Int) - at_).toNat * (b + (L + 1)) = c at *
  omega
theorem left_take {L n at_ fr : Nat} {star : Int} (h2 : at_ < L) : left L n star fr (at_ + 1) < left L n star fr at_ := by
  unfold left; omega
theorem left_back {L n at_ fr k : Nat} {star : Int} (h2 : fr < n) : left L n star (fr + 1) k < left L n star fr at_ := by
  unfold left
  obtain ⟨d, hd⟩ : ∃ d, n - fr = d + 1 := ⟨n - fr - 1, by omega⟩
  rw [hd, show n - (fr + 1) = d by omega, Nat.add_mul, Nat.one_mul]
  omega

/-- A pattern's letters, a text's letters: does it match? -/
def globM (p : List Ch) (s : List Int) : Bool := matchM (piecesM p.length true p) s
def hasM (p : List Ch) : Bool := p.any fun c => isM c 42 || isM c 63 || isM c 91
def chM (q : Bool) (l : List Nat) : List Ch := l.map fun (x : Nat) => ((x : Int), q)
end Go.Proofs.YtfepkhlifpbkfaaDoor.GlMath
