/-
  Proved: plain facts on patterns of Quoted letters, with a star, with a question mark: what they match. Conditions: the letters are letters.
-/
import Derived.Test.YtpgmlbdfmcbgoaaDoorGlMath
import Derived.Test.YtpgmlbdfmcbgoaaDoorGlyphMath
namespace Go.Proofs.YtpgmlbdfmcbgoaaDoor.GlMath
open Go Go.Lib GlyphMath

/-- A number that is a letter. -/
def OkL (c : Nat) : Prop := c ≤ 1114111 ∧ (c < 55296 ∨ 57343 < c)
theorem OkL.valid {c : Nat} (h : OkL c) : validM (c : Int) = true := by
  unfold validM
  obtain ⟨h1, h2⟩ := h
  rcases h2 with h2 | h2
  · simp; omega
  · simp; omega
theorem decodeN_ok (n b0 b1 b2 b3 : Nat) : OkL (decodeN n b0 b1 b2 b3).1 := by
  unfold decodeN OkL
  repeat' split
  all_goals (simp only; omega)
theorem runesAt_ok (s : ByteArray) : ∀ f i, ∀ c ∈ runesAt s f i, OkL c
  | 0, _, c, h => by simp [runesAt] at h
  | f + 1, i, c, h => by
    unfold runesAt at h
    split at h
    · rcases List.mem_cons.1 h with h | h
      · rw [h, decode_at]; exact decodeN_ok _ _ _ _ _
      · exact runesAt_ok s f _ c h
    · simp at h
theorem letters_ok (s : ByteArray) : ∀ c ∈ letters s, OkL c := runesAt_ok s _ _

/-- The greedy match by what stays true of its rounds. -/
theorem goM_inv {L : List Pc} {S : List Int} {b : Bool} (Inv : Int → Nat → Nat → Nat → Prop)
    (hmany : ∀ star fr at_ i, Inv star fr at_ i → i < S.length → at_ < L.length → (L.getD at_ default).many = true → Inv at_ i (at_ + 1) i)
    (htake : ∀ star fr at_ i, Inv star fr at_ i → i < S.length → at_ < L.length → (L.getD at_ default).many = false → takesM (L.getD at_ default) (S.getD i 0) = true → Inv star fr (at_ + 1) (i + 1))
    (hback : ∀ star fr at_ i, Inv star fr at_ i → i < S.length → ¬ (at_ < L.length ∧ ((L.getD at_ default).many = true ∨ takesM (L.getD at_ default) (S.getD i 0) = true)) → 0 ≤ star → Inv star (fr + 1) (star.toNat + 1) (fr + 1))
    (hnone : ∀ star fr at_ i, Inv star fr at_ i → i < S.length → ¬ (at_ < L.length ∧ ((L.getD at_ default).many = true ∨ takesM (L.getD at_ default) (S.getD i 0) = true)) → ¬ 0 ≤ star → b = false)
    (hend : ∀ star fr at_ i, Inv star fr at_ i → ¬ i < S.length → i ≤ S.length → (L.drop at_).all (·.many) = b) :
    ∀ f star fr at_ i, Inv star fr at_ i → -1 ≤ star → star < at_ → at_ ≤ L.length → fr ≤ i → i ≤ S.length → left L.length S.length star fr at_ < f → goM L S f star fr at_ i = b
  | 0, _, _, _, _, _, _, _, _, _, _, h => by omega
  | f + 1, star, fr, at_, i, hI, h1, h2, h3, h4, h5, h6 => by
    rw [goM]
    by_cases hi : i < S.length
    · rw [if_pos hi]
      by_cases ha : at_ < L.length
      · by_cases hm : (L.getD at_ default).many = true
        · rw [if_pos ⟨ha, hm⟩]
          have := left_star (n := S.length) (i := i) (fr := fr) h2 ha
          exact goM_inv Inv hmany htake hback hnone hend f _ _ _ _ (hmany _ _ _ _ hI hi ha hm) (by omega) (by omega) (by omega) (Nat.le_refl _) h5 (by omega)
        · rw [if_neg (fun h => hm h.2)]
          by_cases ht : takesM (L.getD at_ default) (S.getD i 0) = true
          · rw [if_pos ⟨ha, ht⟩]
            have := left_take (n := S.length) (star := star) (fr := fr) ha
            exact goM_inv Inv hmany htake hback hnone hend f _ _ _ _ (htake _ _ _ _ hI hi ha (by simpa using hm) ht) h1 (by omega) (by omega) (by omega) (by omega) (by omega)
          · rw [if_neg (fun h => ht h.2)]
            have hno : ¬ (at_ < L.length ∧ ((L.getD at_ default).many = true ∨ takesM (L.getD at_ default) (S.getD i 0) = true)) := fun h => h.2.elim hm ht
            by_cases h0 : 0 ≤ star
            · rw [if_pos h0]
              have := left_back (L := L.length) (n := S.length) (at_ := at_) (fr := fr) (k := star.toNat + 1) (star := star) (by omega)
              exact goM_inv Inv hmany htake hback hnone hend f _ _ _ _ (hback _ _ _ _ hI hi hno h0) h1 (by omega) (by omega) (Nat.le_refl _) (by omega) (by omega)
            · rw [if_neg h0]
              exact (hnone _ _ _ _ hI hi hno h0).symm
      · rw [if_neg (fun h => ha h.1), if_neg (fun h => ha h.1)]
        have hno : ¬ (at_ < L.length ∧ ((L.getD at_ default).many = true ∨ takesM (L.getD at_ default) (S.getD i 0) = true)) := fun h => ha h.1
        by_cases h0 : 0 ≤ star
        · rw [if_pos h0]
          have := left_back (L := L.length) (n := S.length) (at_ := at_) (fr := fr) (k := star.toNat + 1) (star := star) (by omega)
          exact goM_inv Inv hmany htake hback hnone hend f _ _ _ _ (hback _ _ _ _ hI hi hno h0) h1 (by omega) (by omega) (Nat.le_refl _) (by omega) (by omega)
        · rw [if_neg h0]
          exact (hnone _ _ _ _ hI hi hno h0).symm
    · rw [if_neg hi]
      exact hend _ _ _ _ hI hi h5
theorem matchM_inv {L : List Pc} {S : List Int} {b : Bool} (Inv : Int → Nat → Nat → Nat → Prop) (h0 : Inv (-1) 0 0 0)
    (hmany : ∀ star fr at_ i, Inv star fr at_ i → i < S.length → at_ < L.length → (L.getD at_ default).many = true → Inv at_ i (at_ + 1) i)
    (htake : ∀ star fr at_ i, Inv star fr at_ i → i < S.length → at_ < L.length → (L.getD at_ default).many = false → takesM (L.getD at_ default) (S.getD i 0) = true → Inv star fr (at_ + 1) (i + 1))
    (hback : ∀ star fr at_ i, Inv star fr at_ i → i < S.length → ¬ (at_ < L.length ∧ ((L.getD at_ default).many = true ∨ takesM (L.getD at_ default) (S.getD i 0) = true)) → 0 ≤ star → Inv star (fr + 1) (star.toNat + 1) (fr + 1))
    (hnone : ∀ star fr at_ i, Inv star fr at_ i → i < S.length → ¬ (at_ < L.length ∧ ((L.getD at_ default).many = true ∨ takesM (L.getD at_ default) (S.getD i 0) = true)) → ¬ 0 ≤ star → b = false)
    (hend : ∀ star fr at_ i, Inv star fr at_ i → ¬ i < S.length → i ≤ S.length → (L.drop at_).all (·.many) = b) : matchM L S = b :=
  goM_inv Inv hmany htake hback hnone hend _ _ _ _ _ h0 (by omega) (by omega) (Nat.zero_le _) (Nat.le_refl _) (Nat.zero_le _) (by omega)

/-- A letter that stands for itself; any letter; any letters. -/
def litP (x : Nat) : Pc := ⟨false, false, [((x : Int), true)]⟩
def anyP : Pc := ⟨false, true, []⟩
def starP : Pc := ⟨true, false, []⟩
theorem takes_lit {x : Nat} (hx : OkL x) (r : Int) : takesM (litP x) r = decide ((x : Int) = r) := by
  have hl : letM ((x : Int), true) = x := by unfold letM; rw [hx.valid]; rfl
  show (foundM 1 [((x : Int), true)] r != false) = _
  unfold foundM
  simp only [itemM, hl, foundM]
  by_cases h : (x : Int) = r
  · rw [if_pos ⟨by omega, by omega⟩, decide_eq_true h]; rfl
  · rw [if_neg (by omega), decide_eq_false h]; rfl
theorem takes_any1 (r : Int) : takesM anyP r = true := rfl
theorem pieces_fuel : ∀ (f g : Nat) (e : Bool) (l : List Ch), l.length ≤ f → l.length ≤ g → piecesM f e l = piecesM g e l
  | 0, g, e, l, hf, _ => by
    obtain rfl : l = [] := List.eq_nil_of_length_eq_zero (by omega)
    cases g <;> rfl
  | f + 1, 0, e, l, _, hg => by
    obtain rfl : l = [] := List.eq_nil_of_length_eq_zero (by omega)
    rfl
  | f + 1, g + 1, e, [], _, _ => rfl
  | f + 1, g + 1, e, c :: l, hf, hg => by
    have h := piece_size e c l
    rw [piecesM, piecesM, pieces_fuel f g _ _ (by rw [List.length_drop, List.length_cons]; rw [List.length_cons] at hf; omega) (by rw [List.length_drop, List.length_cons]; rw [List.length_cons] at hg; omega)]
theorem pieces_lit (x : Nat) (l : List Ch) : piecesM (((x : Int), true) :: l).length true (((x : Int), true) :: l) = litP x :: piecesM l.length true l := by
  have e : pieceM true ((x : Int), true) l = (litP x, 1, true) := by simp [pieceM, isM, litP]
  rw [List.length_cons, piecesM, e]
  rfl
theorem pieces_one (c : Int) (p : Pc) (l : List Ch) (h : pieceM true (c, false) l = (p, 1, true)) : piecesM ((c, false) :: l).length true ((c, false) :: l) = p :: piecesM l.length true l := by
  rw [List.length_cons, piecesM, h]
  rfl
theorem pieces_chM : ∀ (la : List Nat) (l : List Ch), piecesM (chM true la ++ l).length true (chM true la ++ l) = la.map litP ++ piecesM l.length true l
  | [], _ => rfl
  | x :: la, l => by
    have ih := pieces_chM la l
    show piecesM (((x : Int), true) :: (chM true la ++ l)).length true (((x : Int), true) :: (chM true la ++ l)) = _
    rw [pieces_lit, ih]; rfl
def toI (l : List Nat) : List Int := l.map fun (x : Nat) => (x : Int)
theorem toI_length (l : List Nat) : (toI l).length = l.length := by simp [toI]
theorem toI_append (l m : List Nat) : toI (l ++ m) = toI l ++ toI m := by simp [toI]
theorem toI_at (l : List Nat) (i : Nat) (h : i < l.length) : (toI l).getD i 0 = (l[i] : Int) := by
  rw [List.getD_eq_getElem?_getD, toI, List.getElem?_map, List.getElem?_eq_getElem h]; rfl
theorem lit_at (l : List Nat) (i : Nat) (h : i < l.length) : (l.map litP).getD i default = litP l[i] := by
  rw [List.getD_eq_getElem?_getD, List.getElem?_map, List.getElem?_eq_getElem h]; rfl
theorem all_lit (l : List Nat) : (l.map litP).all (·.many) = decide (l = []) := by
  cases l <;> simp [litP]
theorem getD_left {α : Type} (a b : List α) (i : Nat) (d : α) (h : i < a.length) : (a ++ b).getD i d = a.getD i d := by
  rw [List.getD_eq_getElem?_getD, List.getD_eq_getElem?_getD, List.getElem?_append_left h]
theorem getD_right {α : Type} (a b : List α) (i : Nat) (d : α) (h : a.length ≤ i) : (a ++ b).getD i d = b.getD (i - a.length) d := by
  rw [List.getD_eq_getElem?_getD, List.getD_eq_getElem?_getD, List.getElem?_append_right h]

/-- Quoted letters match themselves alone. -/
theorem glob_self (ls lt : List Nat) (hs : ∀ c ∈ ls, OkL c) : globM (chM true ls) (toI lt) = decide (ls = lt) := by
  have hp : piecesM (chM true ls).length true (chM true ls) = ls.map litP := by
    have := pieces_chM ls []
    simpa [piecesM] using this
  unfold globM
  rw [hp]
  refine matchM_inv (fun star fr at_ i => star = -1 ∧ at_ = i ∧ ls.take i = lt.take i ∧ i ≤ ls.length) ⟨rfl, rfl, by simp, Nat.zero_le _⟩ ?_ ?_ ?_ ?_ ?_
  · rintro star fr at_ i ⟨-, rfl, -, -⟩ - ha hm
    rw [List.length_map] at ha
    rw [lit_at _ _ ha] at hm
    cases hm
  · rintro star fr at_ i ⟨rfl, rfl, ht, hl⟩ hi ha - htk
    rw [List.length_map] at ha
    rw [toI_length] at hi
    rw [lit_at _ _ ha, takes_lit (hs _ (List.getElem_mem ha)), toI_at _ _ hi] at htk
    have he : ls[at_] = lt[at_] := by have := of_decide_eq_true htk; omega
    refine ⟨rfl, rfl, ?_, ha⟩
    rw [List.take_add_one, List.take_add_one, ht, List.getElem?_eq_getElem ha, List.getElem?_eq_getElem hi, he]
  · rintro star fr at_ i ⟨rfl, -⟩ - - h0
    omega
  · rintro star fr at_ i ⟨rfl, rfl, ht, hl⟩ hi hno -
    rw [toI_length] at hi
    by_cases ha : at_ < ls.length
    · refine decide_eq_false fun e => hno ⟨by rw [List.length_map]; exact ha, .inr ?_⟩
      rw [lit_at _ _ ha, takes_lit (hs _ (List.getElem_mem ha)), toI_at _ _ hi]
      subst e
      exact decide_eq_true rfl
    · exact decide_eq_false fun e => by rw [e] at ha; exact ha hi
  · rintro star fr at_ i ⟨rfl, rfl, ht, hl⟩ hi hi2
    rw [toI_length] at hi hi2
    rw [← List.map_drop, all_lit]
    have e1 : at_ = lt.length := by omega
    refine decide_eq_decide.2 ⟨fun h => ?_, fun h => ?_⟩
    · have h2 : ls.length ≤ at_ := by simpa using h
      rw [List.take_of_length_le h2, List.take_of_length_le (by omega)] at ht
      exact ht
    · rw [h, e1, List.drop_length]
/-- A star behind. -/
theorem glob_behind (la lb : List Nat) (ha : ∀ c ∈ la, OkL c) : globM (chM true la ++ [(42, false)]) (toI (la ++ lb)) = true := by
  have hp : piecesM (chM true la ++ [(42, false)]).length true (chM true la ++ [(42, false)]) = la.map litP ++ [starP] := by
    rw [pieces_chM, pieces_one 42 starP [] (by simp [pieceM, isM, starP])]; rfl
  unfold globM
  rw [hp]
  have hL : (la.map litP ++ [starP]).length = la.length + 1 := by simp
  have hS : (toI (la ++ lb)).length = la.length + lb.length := by rw [toI_length, List.length_append]
  refine matchM_inv (fun star fr at_ i => (star = -1 ∧ at_ = i ∧ at_ ≤ la.length) ∨ (star = la.length ∧ at_ = la.length + 1)) (.inl ⟨rfl, rfl, Nat.zero_le _⟩) ?_ ?_ ?_ ?_ ?_
  · rintro star fr at_ i (⟨rfl, rfl, h⟩ | ⟨rfl, rfl⟩) - h2 hm
    · by_cases h3 : at_ < la.length
      · rw [getD_left _ _ _ _ (by simpa using h3), lit_at _ _ h3] at hm
        cases hm
      · exact .inr ⟨by omega, by omega⟩
    · rw [hL] at h2; omega
  · rintro star fr at_ i (⟨rfl, rfl, h⟩ | ⟨rfl, rfl⟩) - h2 hm htk
    · by_cases h3 : at_ < la.length
      · exact .inl ⟨rfl, rfl, h3⟩
      · rw [getD_right _ _ _ _ (by simpa using Nat.le_of_not_lt h3), List.length_map, show at_ - la.length = 0 by omega] at hm
        cases hm
    · rw [hL] at h2; omega
  · rintro star fr at_ i (⟨rfl, rfl, h⟩ | ⟨rfl, rfl⟩) - - h0
    · omega
    · exact .inr ⟨rfl, by omega⟩
  · rintro star fr at_ i (⟨rfl, rfl, h⟩ | ⟨rfl, rfl⟩) hi hno h0
    · exfalso
      apply hno
      refine ⟨by rw [hL]; omega, ?_⟩
      by_cases h3 : at_ < la.length
      · right
        have h4 : at_ < (la ++ lb).length := by rw [List.length_append]; omega
        rw [getD_left _ _ _ _ (by simpa using h3), lit_at _ _ h3, takes_lit (ha _ (List.getElem_mem h3)), toI_at _ _ h4, List.getElem_append_left h3]
        exact decide_eq_true rfl
      · left
        rw [getD_right _ _ _ _ (by simpa using Nat.le_of_not_lt h3), List.length_map, show at_ - la.length = 0 by omega]
        rfl
    · omega
  · rintro star fr at_ i (⟨rfl, rfl, h⟩ | ⟨rfl, rfl⟩) hi hi2
    · rw [hS] at hi
      rw [show at_ = (la.map litP).length by simp; omega, List.drop_left]
      rfl
    · rw [List.drop_of_length_le (by rw [hL]; exact Nat.le_refl _)]
      rfl
/-- A star ahead. -/
theorem glob_ahead (la lb : List Nat) (hb : ∀ c ∈ lb, OkL c) : globM ((42, false) :: chM true lb) (toI (la ++ lb)) = true := by
  have hp : piecesM ((42, false) :: chM true lb).length true ((42, false) :: chM true lb) = starP :: lb.map litP := by
    have := pieces_chM lb []
    rw [pieces_one 42 starP (chM true lb) (by simp [pieceM, isM, starP])]
    congr 1
    simpa [piecesM] using this
  unfold globM
  rw [hp]
  have hL : (starP :: lb.map litP).length = lb.length + 1 := by simp
  have hS : (toI (la ++ lb)).length = la.length + lb.length := by rw [toI_length, List.length_append]
  have hat : ∀ k, k < lb.length → (starP :: lb.map litP).getD (k + 1) default = litP (lb.getD k 0) := fun k hk => by
    rw [List.getD_cons_succ, lit_at _ _ hk, List.getD_eq_getElem?_getD, List.getElem?_eq_getElem hk]; rfl
  refine matchM_inv (fun star fr at_ i => (star = -1 ∧ at_ = 0 ∧ i = 0) ∨ (star = 0 ∧ ∃ k, at_ = k + 1 ∧ k ≤ lb.length ∧ i = fr + k ∧ fr ≤ la.length)) (.inl ⟨rfl, rfl, rfl⟩) ?_ ?_ ?_ ?_ ?_
  · rintro star fr at_ i (⟨rfl, rfl, rfl⟩ | ⟨rfl, k, rfl, hk, rfl, hf⟩) - h2 hm
    · exact .inr ⟨rfl, 0, rfl, Nat.zero_le _, rfl, Nat.zero_le _⟩
    · rw [hat k (by rw [hL] at h2; omega)] at hm
      cases hm
  · rintro star fr at_ i (⟨rfl, rfl, rfl⟩ | ⟨rfl, k, rfl, hk, rfl, hf⟩) - h2 hm htk
    · cases hm
    · exact .inr ⟨rfl, k + 1, rfl, by rw [hL] at h2; omega, by omega, hf⟩
  · rintro star fr at_ i (⟨rfl, rfl, rfl⟩ | ⟨rfl, k, rfl, hk, rfl, hf⟩) hi hno h0
    · omega
    · refine .inr ⟨rfl, 0, rfl, Nat.zero_le _, rfl, ?_⟩
      by_cases h3 : fr < la.length
      · exact h3
      · exfalso
        rw [hS] at hi
        have h4 : k < lb.length := by omega
        apply hno
        refine ⟨by rw [hL]; omega, .inr ?_⟩
        have e : lb.getD k 0 = lb[k] := by rw [List.getD_eq_getElem?_getD, List.getElem?_eq_getElem h4]; rfl
        have h5 : fr + k < (la ++ lb).length := by rw [List.length_append]; omega
        rw [hat k h4, e, takes_lit (hb _ (List.getElem_mem h4)), toI_at _ _ h5, List.getElem_append_right (by omega)]
        refine decide_eq_true ?_
        congr 2
        omega
  · rintro star fr at_ i (⟨rfl, rfl, rfl⟩ | ⟨rfl, k, rfl, hk, rfl, hf⟩) hi hno h0
    · exact absurd ⟨by rw [hL]; omega, .inl rfl⟩ hno
    · omega
  · rintro star fr at_ i (⟨rfl, rfl, rfl⟩ | ⟨rfl, k, rfl, hk, rfl, hf⟩) hi hi2
    · rw [hS] at hi
      obtain rfl : lb = [] := List.eq_nil_of_length_eq_zero (by omega)
      rfl
    · rw [hS] at hi
      rw [List.drop_of_length_le (by rw [hL]; omega)]
      rfl
/-- One letter between. -/
theorem pieces_mid (la lb : List Nat) : piecesM (chM true la ++ [(63, false)] ++ chM true lb).length true (chM true la ++ [(63, false)] ++ chM true lb) = la.map litP ++ anyP :: lb.map litP := by
  have h := pieces_chM lb []
  rw [List.append_assoc, pieces_chM]
  congr 1
  show piecesM (((63, false) : Ch) :: chM true lb).length true ((63, false) :: chM true lb) = _
  rw [pieces_one 63 anyP (chM true lb) (by simp [pieceM, isM, anyP])]
  congr 1
  simpa [piecesM] using h
theorem mid_at (la lb : List Nat) (k : Nat) (hk : k < la.length + 1 + lb.length) : ((la.map litP ++ anyP :: lb.map litP).getD k default).many = false ∧ ∀ x : Nat, (∀ c ∈ la, OkL c) → (∀ c ∈ lb, OkL c) →
    takesM ((la.map litP ++ anyP :: lb.map litP).getD k default) ((toI (la ++ [x] ++ lb)).getD k 0) = true := by
  by_cases h1 : k < la.length
  · rw [getD_left _ _ _ _ (by simpa using h1), lit_at _ _ h1]
    refine ⟨rfl, fun x ha hb => ?_⟩
    have h2 : k < (la ++ [x] ++ lb).length := by simp; omega
    rw [takes_lit (ha _ (List.getElem_mem h1)), toI_at _ _ h2]
    refine decide_eq_true ?_
    rw [List.getElem_append_left (by simp; omega), List.getElem_append_left h1]
  · rw [getD_right _ _ _ _ (by simpa using Nat.le_of_not_lt h1), List.length_map]
    by_cases h2 : k = la.length
    · subst h2
      rw [Nat.sub_self]
      exact ⟨rfl, fun x _ _ => rfl⟩
    · obtain ⟨j, hj⟩ : ∃ j, k - la.length = j + 1 := ⟨k - la.length - 1, by omega⟩
      rw [hj, List.getD_cons_succ]
      have h3 : j < lb.length := by omega
      rw [lit_at _ _ h3]
      refine ⟨rfl, fun x ha hb => ?_⟩
      have h4 : k < (la ++ [x] ++ lb).length := by simp; omega
      rw [takes_lit (hb _ (List.getElem_mem h3)), toI_at _ _ h4]
      refine decide_eq_true ?_
      rw [List.getElem_append_right (by simp; omega)]
      congr 2
      simp; omega
theorem glob_mid (la lb : List Nat) (x : Nat) (ha : ∀ c ∈ la, OkL c) (hb : ∀ c ∈ lb, OkL c) : globM (chM true la ++ [(63, false)] ++ chM true lb) (toI (la ++ [x] ++ lb)) = true := by
  unfold globM
  rw [pieces_mid]
  have hL : (la.map litP ++ anyP :: lb.map litP).length = la.length + 1 + lb.length := by simp; omega
  have hS : (toI (la ++ [x] ++ lb)).length = la.length + 1 + lb.length := by rw [toI_length]; simp; omega
  refine matchM_inv (fun star fr at_ i => star = -1 ∧ at_ = i) ⟨rfl, rfl⟩ ?_ ?_ ?_ ?_ ?_
  · rintro star fr at_ i ⟨rfl, rfl⟩ - h2 hm
    rw [(mid_at la lb at_ (by rw [hL] at h2; exact h2)).1] at hm
    cases hm
  · rintro star fr at_ i ⟨rfl, rfl⟩ - h2 hm htk
    exact ⟨rfl, rfl⟩
  · rintro star fr at_ i ⟨rfl, rfl⟩ - - h0
    omega
  · rintro star fr at_ i ⟨rfl, rfl⟩ hi hno h0
    exfalso
    rw [hS] at hi
    exact hno ⟨by rw [hL]; exact hi, .inr ((mid_at la lb at_ hi).2 x ha hb)⟩
  · rintro star fr at_ i ⟨rfl, rfl⟩ hi hi2
    rw [hS] at hi
    rw [List.drop_of_length_le (by rw [hL]; omega)]
    rfl
theorem glob_few (la lb : List Nat) : globM (chM true la ++ [(63, false)] ++ chM true lb) (toI (la ++ lb)) = false := by
  unfold globM
  rw [pieces_mid]
  have hL : (la.map litP ++ anyP :: lb.map litP).length = la.length + 1 + lb.length := by simp; omega
  have hS : (toI (la ++ lb)).length = la.length + lb.length := by rw [toI_length]; simp
  refine matchM_inv (fun star fr at_ i => star = -1 ∧ at_ = i) ⟨rfl, rfl⟩ ?_ ?_ ?_ ?_ ?_
  · rintro star fr at_ i ⟨rfl, rfl⟩ - h2 hm
    rw [(mid_at la lb at_ (by rw [hL] at h2; exact h2)).1] at hm
    cases hm
  · rintro star fr at_ i ⟨rfl, rfl⟩ - h2 hm htk
    exact ⟨rfl, rfl⟩
  · rintro star fr at_ i ⟨rfl, rfl⟩ - - h0
    omega
  · rintro star fr at_ i ⟨rfl, rfl⟩ hi hno h0
    rfl
  · rintro star fr at_ i ⟨rfl, rfl⟩ hi hi2
    rw [hS] at hi hi2
    have h3 : at_ < (la.map litP ++ anyP :: lb.map litP).length := by rw [hL]; omega
    rw [List.drop_eq_getElem_cons h3, List.all_cons]
    have h4 := (mid_at la lb at_ (by omega)).1
    rw [List.getD_eq_getElem?_getD, List.getElem?_eq_getElem h3] at h4
    rw [show ((la.map litP ++ anyP :: lb.map litP)[at_]'h3).many = false from h4]
    rfl
theorem has_self (l : List Nat) : hasM (chM true l) = false := by
  induction l with
  | nil => rfl
  | cons a l ih => simp [hasM, chM, isM]
end Go.Proofs.YtpgmlbdfmcbgoaaDoor.GlMath
