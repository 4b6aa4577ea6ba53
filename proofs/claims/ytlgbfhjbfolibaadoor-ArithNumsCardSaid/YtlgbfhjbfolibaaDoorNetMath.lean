/-
  Proved: plain facts on lists of bytes: the decimal numeral of an int64 is parsed back; what a Reader takes first is the same by both ways of telling it. Conditions: the numbers are int64.
-/
import Derived.Lib.ItoaLen
import Derived.Lib.ParseIntBTie
import Derived.Lib.IndexLaws
import Derived.Lib.Bytealg
namespace Go.Proofs.YtlgbfhjbfolibaaDoor.NetMath
open Go.Lib

def isD (c : UInt8) : Bool := decide (48 ≤ c.toNat ∧ c.toNat ≤ 57)
/-- A Num's bytes. -/
def numB (n : Int) : List UInt8 := itoa n ++ [59]
/-- A Text's bytes. -/
def textB (l : List UInt8) : List UInt8 := numB l.length ++ l
def I64 (n : Int) : Prop := -9223372036854775808 ≤ n ∧ n ≤ 9223372036854775807

theorem decDigits_small {u : Nat} (h : u < 10) : decDigits u = [UInt8.ofNat (48 + u)] := by rw [decDigits, dif_pos h]
theorem decDigits_big {u : Nat} (h : ¬ u < 10) : decDigits u = decDigits (u / 10) ++ [UInt8.ofNat (48 + u % 10)] := by rw [decDigits, dif_neg h]

theorem digit_toNat {d : Nat} (h : d < 10) : (UInt8.ofNat (48 + d)).toNat = 48 + d := by
  rw [UInt8.toNat_ofNat']; omega

theorem decDigits_all (u : Nat) : ∀ c ∈ decDigits u, 48 ≤ c.toNat ∧ c.toNat ≤ 57 := by
  induction u using Nat.strongRecOn with
  | _ u ih =>
    intro c hc
    by_cases h : u < 10
    · rw [decDigits_small h] at hc
      simp only [List.mem_singleton] at hc
      subst hc
      rw [digit_toNat h]; omega
    · rw [decDigits_big h, List.mem_append] at hc
      rcases hc with hc | hc
      · exact ih (u / 10) (by omega) c hc
      · simp only [List.mem_singleton] at hc
        subst hc
        rw [digit_toNat (by omega)]; omega

theorem decDigits_ne (u : Nat) : decDigits u ≠ [] := by
  by_cases h : u < 10
  · rw [decDigits_small h]; simp
  · rw [decDigits_big h]; simp

/-- A digit's value. -/
def dv (c : UInt8) : Nat := c.toNat - 48
theorem dv_of {d : Nat} (h : d < 10) : dv (UInt8.ofNat (48 + d)) = d := by
  have := digit_toNat h
  unfold dv
  omega
/-- The value of digits, by Horner's rule. -/
def val (acc : Nat) (l : List UInt8) : Nat := l.foldl (fun a c => 10 * a + dv c) acc
theorem val_nil (acc : Nat) : val acc [] = acc := rfl
theorem val_cons (acc : Nat) (c : UInt8) (r : List UInt8) : val acc (c :: r) = val (10 * acc + dv c) r := by
  unfold val; rw [List.foldl_cons]
theorem val_append (a b : List UInt8) (acc : Nat) : val acc (a ++ b) = val (val acc a) b := by
  unfold val; rw [List.foldl_append]

theorem val_decDigits (u : Nat) : val 0 (decDigits u) = u := by
  induction u using Nat.strongRecOn with
  | _ u ih =>
    by_cases h : u < 10
    · rw [decDigits_small h, val_cons, val_nil, dv_of h]; omega
    · rw [decDigits_big h, val_append, ih (u / 10) (by omega), val_cons, val_nil, dv_of (by omega)]
      omega

theorem val_mono (l : List UInt8) (acc : Nat) : acc ≤ val acc l := by
  induction l generalizing acc with
  | nil => exact Nat.le_refl _
  | cons c r ih =>
    rw [val_cons]
    have := ih (10 * acc + dv c)
    omega

/-- What a parse of digits gives, where the value fits a uint64. -/
theorem parseUint10_val : ∀ (l : List UInt8) (acc : Nat), (∀ c ∈ l, 48 ≤ c.toNat ∧ c.toNat ≤ 57) → val acc l < 18446744073709551616 → parseUint10 acc l = .ok (val acc l)
  | [], acc, _, _ => rfl
  | c :: r, acc, hd, hv => by
    have hc := hd c (by simp)
    have hm := val_mono r (10 * acc + dv c)
    have e : acc * 10 + (c.toNat - 48) = 10 * acc + dv c := by unfold dv; omega
    rw [val_cons] at hv ⊢
    unfold parseUint10
    rw [if_pos hc, e, if_neg (by omega), if_neg (by omega)]
    exact parseUint10_val r _ (fun x hx => hd x (by simp [hx])) hv

theorem parseMag_dec (u : Nat) (h : u < 18446744073709551616) : parseMag (decDigits u) = .ok u := by
  unfold parseMag
  rw [if_neg (decDigits_ne u), parseUint10_val _ _ (decDigits_all u) (by rw [val_decDigits]; exact h), val_decDigits]

/-- THE NUMERAL OF AN int64 IS PARSED BACK. -/
theorem parse_itoa (n : Int) (h : I64 n) : parseIntB 64 (itoa n) = .ok n := by
  obtain ⟨h0, h1⟩ := h
  rw [parseIntB_64]
  by_cases hn : n < 0
  · obtain ⟨u, rfl⟩ : ∃ u : Nat, n = -(u : Int) := ⟨n.natAbs, by omega⟩
    rw [itoa_neg u (by omega)]
    simp only [atoiAll]
    rw [if_pos (by decide), parseMag_dec u (by omega)]
    simp only
    rw [if_neg (by simp), if_neg (by simp; omega), if_pos (by decide)]
  · obtain ⟨u, rfl⟩ : ∃ u : Nat, n = (u : Int) := ⟨n.toNat, by omega⟩
    rw [itoa_nonneg]
    have hp := parseMag_dec u (by omega)
    have ha := decDigits_all u
    have hne := decDigits_ne u
    revert hp ha hne
    cases decDigits u with
    | nil => intro _ _ h; exact absurd rfl h
    | cons c r =>
      intro hp ha _
      have hc := ha c (by simp)
      simp only [atoiAll]
      rw [if_neg (by omega), hp]
      simp only
      rw [if_neg (by omega), if_neg (by omega), if_neg (by omega)]

theorem itoa_bytes (n : Int) : ∀ c ∈ itoa n, c ≠ 59 := by
  intro c hc
  unfold itoa at hc
  split at hc
  · rcases List.mem_cons.1 hc with rfl | hc
    · decide
    · have := decDigits_all _ c hc
      rintro rfl
      simp at this
  · have := decDigits_all _ c hc
    rintro rfl
    simp at this

theorem itoa_ne (n : Int) : itoa n ≠ [] := by
  unfold itoa
  split
  · simp
  · exact decDigits_ne _

theorem nDigits_le19 (u : Nat) (h : u < 10000000000000000000) : nDigits u ≤ 19 := by
  rcases Nat.eq_zero_or_pos u with rfl | h1
  · rw [nDigits_small (by omega)]; omega
  · rcases Nat.lt_or_ge (nDigits u) 20 with h2 | h2
    · omega
    · exfalso
      have h20 := nDigits_le20 u (by omega)
      have e : nDigits u = 20 := by omega
      have hlow : ∀ k v : Nat, nDigits v = k + 1 → k = 0 ∨ 10 ^ k ≤ v := by
        intro k
        induction k with
        | zero => intro v _; exact .inl rfl
        | succ k ih =>
          intro v hv
          right
          by_cases hb : v < 10
          · rw [nDigits_small hb] at hv; omega
          · rw [nDigits_big hb] at hv
            rcases ih (v / 10) (by omega) with h0 | h0
            · subst h0; simp; omega
            · rw [Nat.pow_succ]; omega
      rcases hlow 19 u e with h0 | h0
      · omega
      · have : (10 : Nat) ^ 19 = 10000000000000000000 := by decide
        omega

theorem itoa_length20 (n : Int) (h : I64 n) : (itoa n).length ≤ 20 := by
  obtain ⟨h0, h1⟩ := h
  by_cases hneg : n < 0
  · obtain ⟨u, rfl⟩ : ∃ u : Nat, n = -(u : Int) := ⟨n.natAbs, by omega⟩
    rw [itoa_neg u (by omega), List.length_cons, decDigits_length]
    have := nDigits_le19 u (by omega)
    omega
  · obtain ⟨u, rfl⟩ : ∃ u : Nat, n = u := ⟨n.toNat, by omega⟩
    rw [itoa_nonneg, decDigits_length]
    have := nDigits_le20 u (by omega)
    omega

/-- WHERE THE FIRST ';' STANDS. -/
theorem indexByte_append (a r : List UInt8) (h : ∀ c ∈ a, c ≠ 59) : indexByte (a ++ 59 :: r) 59 = a.length := by
  induction a with
  | nil => simp [indexByte]
  | cons c t ih =>
    have hc : c ≠ 59 := h c (by simp)
    have := ih (fun x hx => h x (by simp [hx]))
    simp only [List.cons_append, indexByte, List.length_cons]
    rw [this]
    simp [hc]

/-- THE NUMBER THAT l BEGINS WITH, AND HOW MANY BYTES IT HAS: as net's text reckons it. -/
def firstN (l : List UInt8) : Option (Int × Nat) :=
  let e := indexByte (l.take 21) 59
  if e < 0 then none
  else match parseIntB 64 (l.take e.toNat) with
    | .ok n => if numB n = l.take (e.toNat + 1) then some (n, e.toNat + 1) else none
    | _ => none

theorem firstN_prefix {l : List UInt8} {n : Int} {k : Nat} (h : firstN l = some (n, k)) : I64 n ∧ numB n = l.take k ∧ k = (numB n).length ∧ k ≤ l.length := by
  unfold firstN at h
  simp only at h
  split at h
  · cases h
  · rename_i hneg
    split at h
    · rename_i m hm
      split at h
      · rename_i he
        simp only [Option.some.injEq, Prod.mk.injEq] at h
        obtain ⟨rfl, rfl⟩ := h
        have hb := parseIntB_bounds hm
        have hidx := indexByte_some (l := l.take 21) (c := 59) (o := (indexByte (l.take 21) 59).toNat) (by omega)
        have hlt : (indexByte (l.take 21) 59).toNat < (l.take 21).length := by
          have := hidx.1
          exact (List.getElem?_eq_some_iff.1 this).1
        rw [List.length_take] at hlt
        refine ⟨⟨by simpa using hb.1, by have := hb.2; simp at this; omega⟩, he, ?_, by omega⟩
        rw [he, List.length_take]; omega
      · cases h
    · cases h

theorem firstN_of_prefix (n : Int) (h : I64 n) (r : List UInt8) : firstN (numB n ++ r) = some (n, (numB n).length) := by
  have h20 := itoa_length20 n h
  have ht : (numB n ++ r).take 21 = itoa n ++ 59 :: r.take (20 - (itoa n).length) := by
    unfold numB
    rw [List.append_assoc, List.take_append]
    rw [List.take_of_length_le (by omega)]
    congr 1
    obtain ⟨j, hj⟩ : ∃ j, 21 - (itoa n).length = j + 1 := ⟨20 - (itoa n).length, by omega⟩
    rw [hj, List.singleton_append, List.take_succ_cons]
    congr 2; omega
  have hi : indexByte ((numB n ++ r).take 21) 59 = (itoa n).length := by rw [ht]; exact indexByte_append _ _ (itoa_bytes n)
  unfold firstN
  simp only
  rw [hi, if_neg (by omega)]
  have e1 : (numB n ++ r).take ((itoa n).length : Int).toNat = itoa n := by
    unfold numB
    rw [Int.toNat_natCast, List.append_assoc, List.take_left]
  have e2 : (numB n ++ r).take (((itoa n).length : Int).toNat + 1) = numB n := by
    rw [Int.toNat_natCast]
    have : (itoa n).length + 1 = (numB n).length := by simp [numB]
    rw [this, List.take_left]
  rw [e1, e2, parse_itoa n h]
  simp [numB]

/-- WHAT THE OTHER TEXT's READING ASKS: some candidate v of l, an int64, that is l's own Num where there is one. -/
theorem firstN_by (l : List UInt8) (v : Int) (hv : I64 v) (hc : ∀ n, I64 n → numB n = l.take (numB n).length → v = n) :
    firstN l = if numB v = l.take (numB v).length then some (v, (numB v).length) else none := by
  split
  · rename_i h
    have e : l = numB v ++ l.drop (numB v).length := by
      conv => lhs; rw [← List.take_append_drop (numB v).length l]
      rw [← h]
    conv => lhs; rw [e]
    exact firstN_of_prefix v hv _
  · rename_i h
    cases hf : firstN l with
    | none => rfl
    | some x =>
      obtain ⟨n, k⟩ := x
      obtain ⟨hi, ht, rfl, _⟩ := firstN_prefix hf
      have := hc n hi ht
      subst this
      exact absurd ht h

/-! What Num, Text answer of the bytes l; what is left. -/
def numV (l : List UInt8) : Int := match firstN l with | some (n, _) => n | none => 0
def numOk (l : List UInt8) : Bool := (firstN l).isSome
def numRest (l : List UInt8) : List UInt8 := match firstN l with | some (_, k) => l.drop k | none => l
def textOf (l : List UInt8) : Option (List UInt8 × List UInt8) :=
  match firstN l with
  | some (n, k) => if n < 0 ∨ ((l.length - k : Nat) : Int) < n then none else some ((l.drop k).take n.toNat, (l.drop k).drop n.toNat)
  | none => none
def textV (l : List UInt8) : List UInt8 := match textOf l with | some (t, _) => t | none => []
def textOk (l : List UInt8) : Bool := (textOf l).isSome
def textRest (l : List UInt8) : List UInt8 := match textOf l with | some (_, r) => r | none => l

theorem num_take (n : Int) (h : I64 n) (r : List UInt8) : numV (numB n ++ r) = n ∧ numOk (numB n ++ r) = true ∧ numRest (numB n ++ r) = r := by
  have e := firstN_of_prefix n h r
  unfold numV numOk numRest
  rw [e]
  exact ⟨rfl, rfl, List.drop_left⟩

theorem text_take (s : List UInt8) (h : s.length ≤ 9223372036854775807) (r : List UInt8) : textOf (textB s ++ r) = some (s, r) := by
  have e := firstN_of_prefix (s.length : Int) ⟨by omega, by omega⟩ (s ++ r)
  unfold textOf textB
  rw [List.append_assoc, e]
  simp only
  rw [List.drop_left, if_neg (by simp; omega)]
  simp

theorem text_takes (s : List UInt8) (h : s.length ≤ 9223372036854775807) (r : List UInt8) : textV (textB s ++ r) = s ∧ textOk (textB s ++ r) = true ∧ textRest (textB s ++ r) = r := by
  unfold textV textOk textRest
  rw [text_take s h r]
  exact ⟨rfl, rfl, rfl⟩

/-- A TEXT THAT IS CUT SHORT IS NONE. -/
theorem text_cut (s : List UInt8) (h : s.length ≤ 9223372036854775807) (cut : Nat) (hc : cut < (textB s).length) : textOf ((textB s).take cut) = none := by
  have hi : I64 (s.length : Int) := ⟨by omega, by omega⟩
  unfold textOf
  cases hf : firstN ((textB s).take cut) with
  | none => rfl
  | some x =>
    obtain ⟨n, k⟩ := x
    obtain ⟨hin, ht, rfl, hle⟩ := firstN_prefix hf
    rw [List.length_take] at hle
    have e : (textB s).take (numB n).length = numB n := by
      rw [List.take_take, Nat.min_eq_left (by omega)] at ht
      exact ht.symm
    have e2 : textB s = numB n ++ (textB s).drop (numB n).length := by
      conv => lhs; rw [← List.take_append_drop (numB n).length (textB s)]
      rw [e]
    have f1 := firstN_of_prefix n hin ((textB s).drop (numB n).length)
    rw [← e2] at f1
    have f2 := firstN_of_prefix (s.length : Int) hi s
    rw [show numB (s.length : Int) ++ s = textB s from rfl, f1] at f2
    simp only [Option.some.injEq, Prod.mk.injEq] at f2
    obtain ⟨rfl, _⟩ := f2
    simp only
    rw [if_pos]
    right
    have hl : (textB s).length = (numB (s.length : Int)).length + s.length := by simp [textB]
    rw [List.length_take]
    omega

theorem text_cuts (s : List UInt8) (h : s.length ≤ 9223372036854775807) (cut : Nat) (hc : cut < (textB s).length) :
    textV ((textB s).take cut) = [] ∧ textOk ((textB s).take cut) = false ∧ textRest ((textB s).take cut) = (textB s).take cut := by
  unfold textV textOk textRest
  rw [text_cut s h cut hc]
  exact ⟨rfl, rfl, rfl⟩
end Go.Proofs.YtlgbfhjbfolibaaDoor.NetMath
