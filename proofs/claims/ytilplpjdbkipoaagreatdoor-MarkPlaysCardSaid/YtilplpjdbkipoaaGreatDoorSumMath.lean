/-
  Proved: plain facts on the sum of 32 digits: a step's answer tells its number; one byte turned turns the sum; how bytes are parted does not matter. Conditions: numbers below 2^32.
-/
namespace Go.Proofs.YtilplpjdbkipoaaGreatDoor.SumMath

/-- The chapter's number. -/
def poly : Nat := 2197175160
theorem poly_eq : poly = 0x82f63b78 := by decide

/-- A step: x, if it is odd, is x / 2 xor the number, else x / 2. -/
def tapT (x : Nat) : Nat := if x % 2 = 1 then (x / 2) ^^^ poly else x / 2
def tapN : Nat → Nat → Nat
  | 0, x => x
  | n + 1, x => tapN n (tapT x)
/-- A byte. -/
def tapB (x : Nat) (c : UInt8) : Nat := tapN 8 (x ^^^ c.toNat)
/-- Bytes. -/
def sumL (x : Nat) (l : List UInt8) : Nat := l.foldl tapB x
def ones : Nat := 4294967295
/-- The sum. -/
def sumOf (l : List UInt8) : Nat := sumL ones l ^^^ ones

theorem lt_bits {x : Nat} (h : x < 4294967296) : x < 2 ^ 32 := by omega
theorem xor_lt {x y : Nat} (hx : x < 4294967296) (hy : y < 4294967296) : x ^^^ y < 4294967296 := by
  have := Nat.xor_lt_two_pow (lt_bits hx) (lt_bits hy)
  omega
theorem tapT_lt {x : Nat} (h : x < 4294967296) : tapT x < 4294967296 := by
  unfold tapT
  split
  · exact xor_lt (by omega) (by decide)
  · omega
theorem tapN_lt : ∀ (n : Nat) {x : Nat}, x < 4294967296 → tapN n x < 4294967296
  | 0, _, h => h
  | n + 1, _, h => tapN_lt n (tapT_lt h)
theorem byte_lt (c : UInt8) : c.toNat < 4294967296 := by have := c.toNat_lt; omega
theorem tapB_lt {x : Nat} (h : x < 4294967296) (c : UInt8) : tapB x c < 4294967296 := tapN_lt 8 (xor_lt h (byte_lt c))
theorem sumL_lt : ∀ (l : List UInt8) {x : Nat}, x < 4294967296 → sumL x l < 4294967296
  | [], _, h => h
  | c :: r, x, h => by
    unfold sumL
    rw [List.foldl_cons]
    exact sumL_lt r (tapB_lt h c)
theorem sumOf_lt (l : List UInt8) : sumOf l < 4294967296 := xor_lt (sumL_lt l (by decide)) (by decide)

theorem xor_cancel {a b c : Nat} (h : a ^^^ c = b ^^^ c) : a = b := by
  have := congrArg (fun z => z ^^^ c) h
  simpa [Nat.xor_assoc] using this
theorem xor_cancel_left {a b c : Nat} (h : c ^^^ a = c ^^^ b) : a = b := by
  rw [Nat.xor_comm c a, Nat.xor_comm c b] at h
  exact xor_cancel h

/-- The highest digit of a step's answer is its number's lowest. -/
theorem tapT_top {x : Nat} (h : x < 4294967296) : (tapT x).testBit 31 = decide (x % 2 = 1) := by
  have hq : (x / 2).testBit 31 = false := Nat.testBit_lt_two_pow (by omega)
  unfold tapT
  split
  · rename_i h1
    rw [Nat.testBit_xor, hq, show poly.testBit 31 = true by decide]
    simp [h1]
  · rename_i h1
    rw [hq]; simp [h1]

theorem tapT_inj {x y : Nat} (hx : x < 4294967296) (hy : y < 4294967296) (h : tapT x = tapT y) : x = y := by
  have ht : decide (x % 2 = 1) = decide (y % 2 = 1) := by rw [← tapT_top hx, ← tapT_top hy, h]
  have hd : (x % 2 = 1) ↔ (y % 2 = 1) := by simpa using ht
  unfold tapT at h
  by_cases h1 : x % 2 = 1
  · rw [if_pos h1, if_pos (hd.1 h1)] at h
    have := xor_cancel h
    have := hd.1 h1
    omega
  · rw [if_neg h1, if_neg (fun h2 => h1 (hd.2 h2))] at h
    have : ¬ y % 2 = 1 := fun h2 => h1 (hd.2 h2)
    omega
theorem tapN_inj : ∀ (n : Nat) {x y : Nat}, x < 4294967296 → y < 4294967296 → tapN n x = tapN n y → x = y
  | 0, _, _, _, _, h => h
  | n + 1, _, _, hx, hy, h => tapT_inj hx hy (tapN_inj n (tapT_lt hx) (tapT_lt hy) h)
theorem tapB_inj {x y : Nat} (hx : x < 4294967296) (hy : y < 4294967296) (c : UInt8) (h : tapB x c = tapB y c) : x = y :=
  xor_cancel (tapN_inj 8 (xor_lt hx (byte_lt c)) (xor_lt hy (byte_lt c)) h)
theorem tapB_byte {x : Nat} (hx : x < 4294967296) {c d : UInt8} (h : tapB x c = tapB x d) : c = d := by
  have := xor_cancel_left (tapN_inj 8 (xor_lt hx (byte_lt c)) (xor_lt hx (byte_lt d)) h)
  exact UInt8.toNat_inj.1 this

theorem sumL_cons (x : Nat) (c : UInt8) (r : List UInt8) : sumL x (c :: r) = sumL (tapB x c) r := by unfold sumL; rw [List.foldl_cons]
/-- How bytes are parted does not matter. -/
theorem sumL_append (x : Nat) (a b : List UInt8) : sumL x (a ++ b) = sumL (sumL x a) b := by unfold sumL; rw [List.foldl_append]

theorem sumL_inj : ∀ (l : List UInt8) {x y : Nat}, x < 4294967296 → y < 4294967296 → sumL x l = sumL y l → x = y
  | [], _, _, _, _, h => h
  | c :: r, x, y, hx, hy, h => by
    rw [sumL_cons, sumL_cons] at h
    exact tapB_inj hx hy c (sumL_inj r (tapB_lt hx c) (tapB_lt hy c) h)

/-- ONE BYTE TURNED TURNS IT. -/
theorem turned (a b : List UInt8) (c d : UInt8) (hcd : c ≠ d) : sumOf (a ++ c :: b) ≠ sumOf (a ++ d :: b) := by
  intro h
  have h1 := xor_cancel h
  have hx : sumL ones a < 4294967296 := sumL_lt a (by decide)
  rw [sumL_append, sumL_append, sumL_cons, sumL_cons] at h1
  exact hcd (tapB_byte hx (sumL_inj b (tapB_lt hx c) (tapB_lt hx d) h1))

/-- The chapter's example. -/
theorem nine : sumOf [49, 50, 51, 52, 53, 54, 55, 56, 57] = 3808858755 := by decide +kernel

/-- A number in four bytes, the highest first. -/
def fourB (n : Nat) : List UInt8 := [UInt8.ofNat (n / 16777216), UInt8.ofNat (n / 65536), UInt8.ofNat (n / 256), UInt8.ofNat n]
/-- Four bytes' number. -/
def getB (l : List UInt8) : Nat := match l with
  | a :: b :: c :: d :: _ => a.toNat * 16777216 + b.toNat * 65536 + c.toNat * 256 + d.toNat
  | _ => 0
theorem get_four (n : Nat) (h : n < 4294967296) : getB (fourB n) = n := by
  unfold getB fourB
  simp only [UInt8.toNat_ofNat']
  omega
theorem four_get (a b c d : UInt8) : fourB (getB [a, b, c, d]) = [a, b, c, d] := by
  have ha := a.toNat_lt; have hb := b.toNat_lt; have hc := c.toNat_lt; have hd := d.toNat_lt
  unfold fourB getB
  have e : ∀ (x : UInt8) (n : Nat), n % 256 = x.toNat → UInt8.ofNat n = x := fun x n h => by
    apply UInt8.toNat_inj.1
    rw [UInt8.toNat_ofNat']
    exact h
  simp only [List.cons.injEq, and_true]
  exact ⟨e _ _ (by omega), e _ _ (by omega), e _ _ (by omega), e _ _ (by omega)⟩
end Go.Proofs.YtilplpjdbkipoaaGreatDoor.SumMath
