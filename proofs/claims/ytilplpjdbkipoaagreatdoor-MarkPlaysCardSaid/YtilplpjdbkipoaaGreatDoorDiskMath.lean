/-
  Proved: plain facts on a disk's model: what a write, a flush, a crash, a restart make of it. No conditions but those that each says.
-/
import Derived.Below
import Derived.Lib.UnsafeStr
namespace Go.Proofs.YtilplpjdbkipoaaGreatDoor.DiskMath
open Go

/-- A disk: each sector as it is flushed, and as it was last written; what is pending; the operations; where it crashes; is it down? -/
structure Dk where
  s : List (List UInt8 × List UInt8)
  p : List (Nat × List UInt8)
  n : Nat
  armed : Bool
  at_ : Int
  left : List Int
  down : Bool

def iter {α : Type} (f : Nat → α → α) : Nat → α → α
  | 0, a => a
  | k + 1, a => f k (iter f k a)

abbrev Secs := List (List UInt8 × List UInt8)

/-- How many bytes a crash leaves of the pending write k. -/
def keepOf (left : List Int) (k : Nat) : Nat := (max 0 (min (left.getD k 0) 16)).toNat

def flushR (p : List (Nat × List UInt8)) (j : Nat) (s : Secs) : Secs :=
  match p[j]? with
  | some x => s.modify x.1 fun y => (x.2, y.2)
  | none => s
def dropR (p : List (Nat × List UInt8)) (j : Nat) (s : Secs) : Secs :=
  match p[j]? with
  | some x => s.modify x.1 fun y => (y.1, y.1)
  | none => s
def crashR (left : List Int) (p : List (Nat × List UInt8)) (j : Nat) (s : Secs) : Secs :=
  match p[j]? with
  | some x => s.modify x.1 fun y => (x.2.take (keepOf left j) ++ y.1.drop (keepOf left j), y.2)
  | none => s

def Dk.new (n : Nat) : Dk := { s := List.replicate n (List.replicate 16 0, List.replicate 16 0), p := [], n := 0, armed := false, at_ := 0, left := [], down := false }
def Dk.drop (d : Dk) : Dk := { d with s := iter (dropR d.p) d.p.length d.s, p := [] }
def Dk.disarm (d : Dk) : Dk := { d with armed := false, at_ := 0, left := [] }
def Dk.hits (d : Dk) : Bool := d.armed && decide (d.at_ ≤ (d.n : Int))
def Dk.torn (d : Dk) : Dk := { d with s := iter (crashR d.left d.p) d.p.length d.s }
def Dk.crashed (d : Dk) : Dk := { d.torn.drop.disarm with down := true }
def Dk.has (d : Dk) (i : Int) : Bool := decide (0 ≤ i) && decide (i < (d.s.length : Int))
def Dk.put (d : Dk) (i : Nat) (b : List UInt8) : Dk := { d with p := d.p ++ [(i, b)], s := d.s.modify i (fun y => (y.1, b)), n := d.n + 1 }
def Dk.write (d : Dk) (i : Int) (b : List UInt8) : Int × Dk :=
  if d.down then (5, d) else if b.length ≠ 16 then (1, d) else if d.has i = false then (4, d) else if d.hits then (5, d.crashed) else (0, d.put i.toNat b)
def Dk.flushed (d : Dk) : Dk := { d with s := iter (flushR d.p) d.p.length d.s, p := [], n := d.n + 1 }
def Dk.flush (d : Dk) : Int × Dk :=
  if d.down then (5, d) else if d.hits then (5, d.crashed) else (0, d.flushed)
def Dk.read (d : Dk) (i : Int) : List UInt8 := if d.has i then (d.s.getD i.toNat ([], [])).2 else []
def Dk.arm (d : Dk) (at_ : Int) (left : List Int) : Dk := { d with armed := true, at_ := at_, left := left }
def Dk.restart (d : Dk) : Dk := { d.drop.disarm with down := false, n := 0 }

/-- The cells of what is pending. -/
def wcells (x : Nat × List UInt8) : List Value := .int .i64 (x.1 : Int) :: Lib.byteCells x.2
def pcells (p : List (Nat × List UInt8)) : List Value := p.flatMap wcells

theorem iter_length {f : Nat → Secs → Secs} (h : ∀ j s, (f j s).length = s.length) : ∀ (k : Nat) (s : Secs), (iter f k s).length = s.length
  | 0, _ => rfl
  | k + 1, s => by rw [iter, h, iter_length h k]
theorem flushR_length (p : List (Nat × List UInt8)) (j : Nat) (s : Secs) : (flushR p j s).length = s.length := by
  unfold flushR; split <;> simp
theorem dropR_length (p : List (Nat × List UInt8)) (j : Nat) (s : Secs) : (dropR p j s).length = s.length := by
  unfold dropR; split <;> simp
theorem crashR_length (left : List Int) (p : List (Nat × List UInt8)) (j : Nat) (s : Secs) : (crashR left p j s).length = s.length := by
  unfold crashR; split <;> simp

theorem keepOf_le (left : List Int) (k : Nat) : keepOf left k ≤ 16 := by unfold keepOf; omega

theorem bl (l : List UInt8) : (Lib.byteCells l).length = l.length := by simp [Lib.byteCells]
theorem wcells_length {x : Nat × List UInt8} (h : x.2.length = 16) : (wcells x).length = 17 := by simp [wcells, bl, h]
theorem pcells_length : ∀ {p : List (Nat × List UInt8)}, (∀ x ∈ p, x.2.length = 16) → (pcells p).length = p.length * 17
  | [], _ => rfl
  | x :: r, h => by
    have := pcells_length (p := r) (fun y hy => h y (by simp [hy]))
    simp only [pcells, List.flatMap_cons, List.length_append, List.length_cons] at this ⊢
    rw [wcells_length (h x (by simp)), this]; omega
theorem pcells_append (p q : List (Nat × List UInt8)) : pcells (p ++ q) = pcells p ++ pcells q := by simp [pcells]
theorem pcells_one (x : Nat × List UInt8) : pcells [x] = wcells x := by simp [pcells]

/-- The cells of the pending write j. -/
theorem pcells_at : ∀ {p : List (Nat × List UInt8)}, (∀ x ∈ p, x.2.length = 16) → ∀ (j : Nat) (hj : j < p.length) (k : Nat) (v : Value), (wcells p[j])[k]? = some v → (pcells p)[j * 17 + k]? = some v
  | x :: r, h, 0, _, k, v, hv => by
    have hk : k < (wcells x).length := (List.getElem?_eq_some_iff.1 hv).1
    simp only [pcells, List.flatMap_cons, Nat.zero_mul, Nat.zero_add]
    rw [List.getElem?_append_left hk]; exact hv
  | x :: r, h, j + 1, hj, k, v, hv => by
    have := pcells_at (p := r) (fun y hy => h y (by simp [hy])) j (by simpa using hj) k v (by simpa using hv)
    have hx := wcells_length (h x (by simp))
    simp only [pcells, List.flatMap_cons] at this ⊢
    rw [List.getElem?_append_right (by omega), show (j + 1) * 17 + k - (wcells x).length = j * 17 + k by omega]; exact this

theorem oneCell_bytes (l : List UInt8) : ∀ v ∈ Lib.byteCells l, v.oneCell' = true := by
  intro v hv
  simp only [Lib.byteCells, List.mem_map] at hv
  obtain ⟨b, _, rfl⟩ := hv
  rfl
theorem oneCell_wcells (x : Nat × List UInt8) : ∀ v ∈ wcells x, v.oneCell' = true := by
  intro v hv
  rcases List.mem_cons.1 hv with rfl | hv
  · rfl
  · exact oneCell_bytes _ v hv

/-- A torn sector's bytes. -/
theorem torn_length {a b : List UInt8} {k : Nat} (ha : a.length = 16) (hb : b.length = 16) (hk : k ≤ 16) : (a.take k ++ b.drop k).length = 16 := by
  simp [ha, hb]; omega
end Go.Proofs.YtilplpjdbkipoaaGreatDoor.DiskMath
