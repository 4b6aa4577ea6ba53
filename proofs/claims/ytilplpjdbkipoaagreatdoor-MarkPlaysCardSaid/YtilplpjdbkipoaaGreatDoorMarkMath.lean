/-
  Proved: plain facts on a mark's bytes: what is put of it is read back, and nothing else is. Conditions: as each says.
-/
import Derived.Test.YtilplpjdbkipoaaGreatDoorNetMath
namespace Go.Proofs.YtilplpjdbkipoaaGreatDoor.MarkMath
open Go NetMath

/-- A mark. -/
structure Mk where
  gen : Int
  n : Int
  done : Bool
  st : Int
  out : ByteArray
def Mk.v (m : Mk) : Value := .agg #[.int .i64 m.gen, .int .i64 m.n, .bool m.done, .int .i64 m.st, .string m.out]
def Mk.cells (m : Mk) : List Value := [.int .i64 m.gen, .int .i64 m.n, .bool m.done, .int .i64 m.st, .string m.out]
def noB : ByteArray := ⟨#[]⟩
def Mk.none : Mk := ⟨0, 0, false, 0, noB⟩
def Mk.of (g : Int) (m : Mk) : Mk := ⟨g, m.n, m.done, m.st, m.out⟩
def doneN (b : Bool) : Int := if b then 1 else 0
def isGenB (g : Int) : Bool := decide (0 ≤ g) && decide (g ≤ 2147483646)
def Mk.is (m : Mk) : Bool := isGenB m.gen && (decide (0 ≤ m.n) && (decide (m.n ≤ 2147483647) && (m.done || (decide (m.st = 0) && decide (m.out = noB)))))
def Mk.raw (m : Mk) : List UInt8 := numB m.n ++ (numB (doneN m.done) ++ (numB m.st ++ textB m.out.data.toList))
def Mk.bytes (m : Mk) : List UInt8 := if m.is then m.raw else []
/-- Its numbers fit. -/
structure Mk.Fits (m : Mk) : Prop where
  gen : I64 m.gen
  n : I64 m.n
  st : I64 m.st
  out : m.out.size ≤ 1000000

theorem is_gen {m : Mk} (h : m.is = true) : 0 ≤ m.gen ∧ m.gen ≤ 2147483646 ∧ 0 ≤ m.n ∧ m.n ≤ 2147483647 := by
  simp only [Mk.is, isGenB, Bool.and_eq_true, decide_eq_true_eq] at h
  exact ⟨h.1.1, h.1.2, h.2.1, h.2.2.1⟩
theorem is_of {m : Mk} (h : m.is = true) (g : Int) (h0 : 0 ≤ g) (h1 : g ≤ 2147483646) : (m.of g).is = true := by
  simp only [Mk.is, isGenB, Bool.and_eq_true] at h ⊢
  exact ⟨⟨decide_eq_true h0, decide_eq_true h1⟩, h.2⟩
theorem raw_of (m : Mk) (g : Int) : (m.of g).raw = m.raw := rfl
theorem of_of (m : Mk) (g h : Int) : (m.of g).of h = m.of h := rfl
theorem of_self (m : Mk) : m.of m.gen = m := rfl
theorem doneN_I (b : Bool) : I64 (doneN b) := by cases b <;> exact ⟨by decide, by decide⟩
theorem doneN_eq (b : Bool) : (doneN b == 1) = b := by cases b <;> rfl

/-! ### What is read -/
def rest1 (l : List UInt8) : List UInt8 := numRest l
def rest2 (l : List UInt8) : List UInt8 := numRest (rest1 l)
def rest3 (l : List UInt8) : List UInt8 := numRest (rest2 l)
def readM (l : List UInt8) : Mk := ⟨0, numV l, numV (rest1 l) == 1, numV (rest2 l), ⟨(textV (rest3 l)).toArray⟩⟩
def readOk (l : List UInt8) : Bool := numOk l && (numOk (rest1 l) && (numOk (rest2 l) && textOk (rest3 l)))
def readB (l : List UInt8) : Bool := readOk l && decide ((readM l).bytes = l)
def markRead (l : List UInt8) : Option Mk := if readB l then some (readM l) else none

theorem numOk_nil : numOk [] = false := by
  unfold numOk firstN
  simp [Lib.indexByte]
theorem readOk_nil : readOk [] = false := by unfold readOk; rw [numOk_nil]; rfl
theorem readB_is {l : List UInt8} (h : readB l = true) : (readM l).is = true ∧ (readM l).raw = l := by
  simp only [readB, Bool.and_eq_true, decide_eq_true_eq] at h
  obtain ⟨h1, h2⟩ := h
  unfold Mk.bytes at h2
  by_cases hi : (readM l).is = true
  · rw [if_pos hi] at h2; exact ⟨hi, h2⟩
  · rw [if_neg hi] at h2
    rw [← h2, readOk_nil] at h1
    cases h1
theorem read_some {l : List UInt8} {m : Mk} (h : markRead l = some m) : m.is = true ∧ m.raw = l ∧ m.gen = 0 := by
  unfold markRead at h
  split at h
  · rename_i hb
    obtain rfl : readM l = m := by simpa using h
    exact ⟨(readB_is hb).1, (readB_is hb).2, rfl⟩
  · cases h

theorem raw_read (m : Mk) (hn : I64 m.n) (hs : I64 m.st) (ho : m.out.size ≤ 9223372036854775807) : readOk m.raw = true ∧ readM m.raw = m.of 0 := by
  have hl : m.out.data.toList.length ≤ 9223372036854775807 := by rw [Array.length_toList]; exact ho
  have e0 := num_take m.n hn (numB (doneN m.done) ++ (numB m.st ++ textB m.out.data.toList))
  have e1 := num_take (doneN m.done) (doneN_I m.done) (numB m.st ++ textB m.out.data.toList)
  have e2 := num_take m.st hs (textB m.out.data.toList)
  have e3 := text_takes m.out.data.toList hl []
  rw [List.append_nil] at e3
  have r1 : rest1 m.raw = numB (doneN m.done) ++ (numB m.st ++ textB m.out.data.toList) := e0.2.2
  have r2 : rest2 m.raw = numB m.st ++ textB m.out.data.toList := by unfold rest2; rw [r1]; exact e1.2.2
  have r3 : rest3 m.raw = textB m.out.data.toList := by unfold rest3; rw [r2]; exact e2.2.2
  unfold readOk readM
  rw [r1, r2, r3, e1.1, e1.2.1, e2.1, e2.2.1, e3.1, e3.2.1, doneN_eq]
  have e4 : numV m.raw = m.n := e0.1
  have e5 : numOk m.raw = true := e0.2.1
  rw [e4, e5]
  exact ⟨rfl, rfl⟩
/-- WHAT IS PUT OF A MARK IS READ BACK. -/
theorem read_raw (m : Mk) (hm : m.is = true) (hs : I64 m.st) (ho : m.out.size ≤ 9223372036854775807) : markRead m.raw = some (m.of 0) := by
  obtain ⟨g0, g1, n0, n1⟩ := is_gen hm
  obtain ⟨h1, h2⟩ := raw_read m ⟨by omega, by omega⟩ hs ho
  unfold markRead readB
  rw [h1, h2, if_pos]
  unfold Mk.bytes
  rw [is_of hm 0 (by omega) (by omega), if_pos rfl, raw_of]
  simp
theorem readM_fits (l : List UInt8) (hl : l.length ≤ 1000000) : (readM l).Fits := by
  have hv : ∀ l, I64 (numV l) := fun l => by
    unfold numV
    cases h : firstN l with
    | none => exact ⟨by decide, by decide⟩
    | some x => obtain ⟨n, k⟩ := x; exact (firstN_prefix h).1
  have hr : ∀ l : List UInt8, (numRest l).length ≤ l.length := fun l => by
    unfold numRest
    cases h : firstN l with
    | none => exact Nat.le_refl _
    | some x => obtain ⟨n, k⟩ := x; simp
  have ht : ∀ l : List UInt8, (textV l).length ≤ l.length := fun l => by
    unfold textV textOf
    cases h : firstN l with
    | none => simp
    | some x =>
      obtain ⟨n, k⟩ := x
      simp only
      by_cases hc : n < 0 ∨ ((l.length - k : Nat) : Int) < n
      · rw [if_pos hc]; simp
      · rw [if_neg hc]; simp only [List.length_take, List.length_drop]; omega
  refine ⟨⟨by show (-9223372036854775808 : Int) ≤ 0; omega, by show (0 : Int) ≤ 9223372036854775807; omega⟩, hv _, hv _, ?_⟩
  show (textV (rest3 l)).toArray.size ≤ 1000000
  rw [List.size_toArray]
  have h1 := ht (rest3 l)
  have h2 := hr (rest2 l)
  have h3 := hr (rest1 l)
  have h4 := hr l
  unfold rest3 rest2 rest1 at *
  omega

/-! ### How long its bytes are -/
theorem numB_le (n : Int) (h : I64 n) : 2 ≤ (numB n).length ∧ (numB n).length ≤ 21 := by
  have h1 := itoa_length20 n h
  have h2 : (Lib.itoa n).length ≠ 0 := fun e => itoa_ne n (List.eq_nil_of_length_eq_zero e)
  simp [numB]; omega
theorem raw_len (m : Mk) (hn : I64 m.n) (hs : I64 m.st) (ho : m.out.size ≤ 1000000) : 8 + m.out.size ≤ m.raw.length ∧ m.raw.length ≤ 84 + m.out.size := by
  have h1 := numB_le m.n hn
  have h2 := numB_le _ (doneN_I m.done)
  have h3 := numB_le m.st hs
  have e : m.out.data.toList.length = m.out.size := by rw [Array.length_toList]; rfl
  have h4 := numB_le (m.out.data.toList.length : Int) ⟨by omega, by omega⟩
  simp only [Mk.raw, textB, List.length_append]
  omega
theorem numB_small (n : Nat) (h : n < 10) : numB (n : Int) = [UInt8.ofNat (48 + n), 59] := by
  unfold numB
  rw [Lib.itoa_nonneg, decDigits_small h]; rfl
theorem numB_two (n : Nat) (h0 : 10 ≤ n) (h : n < 100) : numB (n : Int) = [UInt8.ofNat (48 + n / 10), UInt8.ofNat (48 + n % 10), 59] := by
  unfold numB
  rw [Lib.itoa_nonneg, decDigits_big (by omega), decDigits_small (by omega)]; rfl
theorem numB_99 (n : Int) (h0 : 0 ≤ n) (h : n < 100) : (numB n).length ≤ 3 := by
  obtain ⟨k, rfl⟩ := Int.eq_ofNat_of_zero_le h0
  by_cases h1 : k < 10
  · rw [numB_small k h1]; simp
  · rw [numB_two k (by omega) (by omega)]; simp
theorem done_2 (b : Bool) : (numB (doneN b)).length = 2 := by
  cases b
  · rw [show doneN false = ((0 : Nat) : Int) from rfl, numB_small 0 (by omega)]; rfl
  · rw [show doneN true = ((1 : Nat) : Int) from rfl, numB_small 1 (by omega)]; rfl
theorem raw_99 (m : Mk) (h0 : 0 ≤ m.n) (h1 : m.n < 100) (hs : I64 m.st) (ho : m.out.size < 100) : m.raw.length ≤ 29 + m.out.size := by
  have e1 := numB_99 m.n h0 h1
  have e2 := done_2 m.done
  have e3 := (numB_le m.st hs).2
  have e : m.out.data.toList.length = m.out.size := by rw [Array.length_toList]; rfl
  have e4 := numB_99 (m.out.data.toList.length : Int) (by omega) (by omega)
  simp only [Mk.raw, textB, List.length_append]
  omega
end Go.Proofs.YtilplpjdbkipoaaGreatDoor.MarkMath
