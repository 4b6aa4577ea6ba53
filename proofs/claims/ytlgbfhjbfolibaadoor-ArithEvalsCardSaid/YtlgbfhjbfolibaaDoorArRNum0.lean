/-
  Proved: plain facts: the statements' own way to a number comes to the same. Conditions: none.
-/
import Derived.Test.YtlgbfhjbfolibaaDoorArMath
namespace Go.Proofs.YtlgbfhjbfolibaaDoor
open Go Go.Lib ArMath

def digsF : B → Int → Int × Bool
  | [], n => (n, true)
  | c :: r, n => if (9223372036854775807 - ((c.toNat : Int) - 48)).tdiv 10 < n then (0, false) else digsF r (10 * n + ((c.toNat : Int) - 48))
def turnF : B → Int → Int × Bool
  | [], n => (n, true)
  | c :: r, n => if n < (-9223372036854775808 + ((c.toNat : Int) - 48)).tdiv 10 then (0, false) else turnF r (10 * n - ((c.toNat : Int) - 48))
def rnumM (l : B) : Int × Bool :=
  let neg := decide (l.head? = some 45)
  let m := if neg then l.tail else l
  if m.all digC = false ∨ m = [] then (0, false) else if neg then turnF m 0 else digsF m 0

def endM : NumEnd Int → Int × Bool
  | .ok n => (n, true)
  | _ => (0, false)
theorem numM_is (l : B) : numM l = if l.head? = some 43 then (0, false) else endM (parseIntB 64 l) := by
  unfold numM
  split
  · rfl
  · cases parseIntB 64 l <;> rfl
theorem dig_is {c : UInt8} (h : digC c = true) : 48 ≤ c.toNat ∧ c.toNat ≤ 57 := by simpa [digC] using h
theorem up_ge (M : Nat) : ∀ (l : B) (acc u : Nat), parseUintM M acc l = .ok u → acc ≤ u
  | [], acc, u, h => by
    simp only [parseUintM] at h
    injection h with h
    omega
  | c :: r, acc, u, h => by
    simp only [parseUintM] at h
    split at h
    · split at h
      · cases h
      · split at h
        · cases h
        · have := up_ge M r _ u h
          omega
    · cases h
theorem up_bad (M : Nat) : ∀ (l : B) (acc u : Nat), l.all digC = false → parseUintM M acc l ≠ .ok u
  | [], acc, u, h => by simp at h
  | c :: r, acc, u, h => by
    simp only [parseUintM]
    split
    · rename_i hc
      have hd : digC c = true := by simpa [digC] using hc
      rw [List.all_cons, hd, Bool.true_and] at h
      split
      · intro h2; cases h2
      · split
        · intro h2; cases h2
        · exact up_bad M r _ u h
    · intro h2; cases h2
/-- What a row of digits comes to. -/
def upTo (C : Nat) (z : Nat → Int) : NumEnd Nat → Int × Bool
  | .ok u => if C < u then (0, false) else (z u, true)
  | _ => (0, false)
theorem upTo_big {C : Nat} {z : Nat → Int} {acc : Nat} {l : B} (h : C < acc) : upTo C z (parseUintM 18446744073709551615 acc l) = (0, false) := by
  cases hp : parseUintM 18446744073709551615 acc l with
  | ok u =>
    have := up_ge _ l acc u hp
    show (if C < u then ((0 : Int), false) else (z u, true)) = _
    rw [if_pos (by omega)]
  | _ => rfl
theorem digs_is : ∀ (l : B) (acc : Nat), l.all digC = true → acc ≤ 9223372036854775807 → digsF l (acc : Int) = upTo 9223372036854775807 (fun u => (u : Int)) (parseUintM 18446744073709551615 acc l)
  | [], acc, _, ha => by
    show ((acc : Int), true) = (if 9223372036854775807 < acc then ((0 : Int), false) else ((acc : Int), true))
    rw [if_neg (by omega)]
  | c :: r, acc, h, ha => by
    rw [List.all_cons, Bool.and_eq_true] at h
    obtain ⟨h1, h2⟩ := dig_is h.1
    simp only [digsF, parseUintM]
    rw [if_pos (show 48 ≤ c.toNat ∧ c.toNat ≤ 57 from ⟨h1, h2⟩)]
    have ht : (9223372036854775807 - ((c.toNat : Int) - 48)).tdiv 10 = (9223372036854775807 - ((c.toNat : Int) - 48)) / 10 := Int.tdiv_eq_ediv_of_nonneg (by omega)
    rw [ht]
    by_cases hb : (9223372036854775807 - ((c.toNat : Int) - 48)) / 10 < (acc : Int)
    · rw [if_pos hb]
      split
      · rfl
      · split
        · rfl
        · exact (upTo_big (by omega)).symm
    · rw [if_neg hb, if_neg (by omega), if_neg (by omega)]
      have := digs_is r (acc * 10 + (c.toNat - 48)) h.2 (by omega)
      rw [← this]
      congr 1
      omega
theorem turn_is : ∀ (l : B) (acc : Nat), l.all digC = true → acc ≤ 9223372036854775808 → turnF l (-(acc : Int)) = upTo 9223372036854775808 (fun u => -(u : Int)) (parseUintM 18446744073709551615 acc l)
  | [], acc, _, ha => by
    show (-(acc : Int), true) = (if 9223372036854775808 < acc then ((0 : Int), false) else (-(acc : Int), true))
    rw [if_neg (by omega)]
  | c :: r, acc, h, ha => by
    rw [List.all_cons, Bool.and_eq_true] at h
    obtain ⟨h1, h2⟩ := dig_is h.1
    simp only [turnF, parseUintM]
    rw [if_pos (show 48 ≤ c.toNat ∧ c.toNat ≤ 57 from ⟨h1, h2⟩)]
    have ht : (-9223372036854775808 + ((c.toNat : Int) - 48)).tdiv 10 = -((9223372036854775808 - ((c.toNat : Int) - 48)) / 10) := by
      rw [show -9223372036854775808 + ((c.toNat : Int) - 48) = -(9223372036854775808 - ((c.toNat : Int) - 48)) by omega, Int.neg_tdiv, Int.tdiv_eq_ediv_of_nonneg (by omega)]
    rw [ht]
    by_cases hb : -(acc : Int) < -((9223372036854775808 - ((c.toNat : Int) - 48)) / 10)
    · rw [if_pos hb]
      split
      · rfl
      · split
        · rfl
        · exact (upTo_big (by omega)).symm
    · rw [if_neg hb, if_neg (by omega), if_neg (by omega)]
      have := turn_is r (acc * 10 + (c.toNat - 48)) h.2 (by omega)
      rw [← this]
      congr 1
      omega
theorem up_full (l : B) (h : l ≠ []) : parseUintB 64 l = parseUintM 18446744073709551615 0 l := by
  unfold parseUintB
  rw [if_neg h]
theorem signless_is (l : B) (h : l ≠ []) : endM (signlessC 9223372036854775808 (parseUintB 64 l)) = if l.all digC = true then digsF l 0 else (0, false) := by
  rw [up_full l h]
  cases hp : parseUintM 18446744073709551615 0 l with
  | ok u =>
    by_cases hd : l.all digC = true
    · have := digs_is l 0 hd (by omega)
      rw [hp] at this
      rw [if_pos hd]
      show _ = digsF l (((0 : Nat) : Int))
      rw [this]
      show endM (signlessC 9223372036854775808 (.ok u)) = (if 9223372036854775807 < u then ((0 : Int), false) else ((u : Int), true))
      simp only [signlessC]
      by_cases hu : 9223372036854775807 < u
      · rw [if_pos hu, if_pos (by omega)]; rfl
      · rw [if_neg hu, if_neg (by omega)]; rfl
    · exact absurd hp (up_bad _ l 0 u (by simpa using hd))
  | _ =>
    split
    · rename_i hd
      have := digs_is l 0 hd (by omega)
      rw [hp] at this
      show _ = digsF l (((0 : Nat) : Int))
      rw [this]; rfl
    · rfl
theorem signed_is (l : B) (h : l ≠ []) : endM (signedC 9223372036854775808 (parseUintB 64 l)) = if l.all digC = true then turnF l 0 else (0, false) := by
  rw [up_full l h]
  cases hp : parseUintM 18446744073709551615 0 l with
  | ok u =>
    by_cases hd : l.all digC = true
    · have := turn_is l 0 hd (by omega)
      rw [hp] at this
      rw [if_pos hd]
      show _ = turnF l (-((0 : Nat) : Int))
      rw [this]
      show endM (signedC 9223372036854775808 (.ok u)) = (if 9223372036854775808 < u then ((0 : Int), false) else (-(u : Int), true))
      simp only [signedC]
      by_cases hu : 9223372036854775808 < u
      · rw [if_pos hu, if_pos (by omega)]; rfl
      · rw [if_neg hu, if_neg (by omega)]; rfl
    · exact absurd hp (up_bad _ l 0 u (by simpa using hd))
  | _ =>
    split
    · rename_i hd
      have := turn_is l 0 hd (by omega)
      rw [hp] at this
      show _ = turnF l (-((0 : Nat) : Int))
      rw [this]; rfl
    · rfl
/-- Both ways come to the same. -/
theorem rnum_is (l : B) : rnumM l = numM l := by
  rw [numM_is]
  cases l with
  | nil => rfl
  | cons c r =>
    by_cases h43 : c = 43
    · subst h43
      rw [if_pos (show (43 :: r).head? = some 43 from rfl)]
      rfl
    rw [if_neg (by simpa using h43)]
    by_cases h45 : c = 45
    · subst h45
      rw [parseIntB_minus]
      show (if r.all digC = false ∨ r = [] then ((0 : Int), false) else turnF r 0) = _
      by_cases hr : r = []
      · subst hr; rfl
      · rw [show (2 : Nat) ^ (64 - 1) = 9223372036854775808 by decide, signed_is r hr]
        cases hd : r.all digC with
        | true => simp [hr]
        | false => simp
    · rw [parseIntB_plain 64 c r (fun e => h43 (UInt8.toNat_inj.1 e)) (fun e => h45 (UInt8.toNat_inj.1 e)), show (2 : Nat) ^ (64 - 1) = 9223372036854775808 by decide, signless_is (c :: r) (by simp)]
      have hn : decide ((c :: r).head? = some 45) = false := by simpa using h45
      unfold rnumM
      simp only [hn, Bool.false_eq_true, if_false]
      cases hd : (c :: r).all digC with
      | true => rw [if_neg (by simp), if_pos rfl]
      | false => rw [if_pos (.inl rfl), if_neg (by simp)]
end Go.Proofs.YtlgbfhjbfolibaaDoor
