/-
  Proved: the laws' own check of the chapter's example answers true. No conditions.
-/
import Derived.Test.YtefonnoeilojeaaFour
import Derived.Lib.SlBytesConst
namespace Go.Proofs.Ytefonnoeilojeaa
open Go Go.RowKit SumMath NetMem

/-- A list of one row that a literal has just made. -/
theorem RowsAt.lit (w : World) (e : TypeId) (q : Option Addr) (n c : Nat) (l : List UInt8) (h : Row w (.slice q n c) l) (k : Nat) (hk : k = w.heap.size) : RowsAt (w.alloc (.cells #[.slice q n c] e)) (some ⟨k, 0, none⟩) [l] := by
  subst hk
  intro i hi
  obtain rfl : i = 0 := by simpa using hi
  exact ⟨_, _, q, n, c, rfl, by rw [new_cell]; rfl, h.below ((Below.refl _ w).alloc (Nat.le_refl _) _)⟩
theorem flat_one (l : List UInt8) : [l].flatten = l := by simp

/-- Of one row, listed. -/
theorem of_one (p : Option Addr) (c : Nat) (l : List UInt8) (w : World) (h : RowsAt w p [l]) :
    Calls Try.prog 7 #[.slice p 1 c] w fun e w' => e = .returned (.int .u32 (sumOf l : Nat)) ∧ w = w' := by
  have := of_any p c [l] w h (by simp)
  rwa [flat_one] at this

def nineL : List UInt8 := [49, 50, 51, 52, 53, 54, 55, 56, 57]
theorem of_nine (p : Option Addr) (c : Nat) (w : World) (h : RowsAt w p [nineL]) :
    Calls Try.prog 7 #[.slice p 1 c] w fun e w' => e = .returned (.int .u32 3808858755) ∧ w = w' := by
  have := of_one p c nineL w h
  rwa [show sumOf nineL = 3808858755 from nine] at this

set_option maxHeartbeats 2000000 in
set_option maxRecDepth 100000 in
theorem known_any (w : World) :
    Calls Try.prog 13 #[] w fun e w' => e = .returned (.bool true) ∧ Below w.heap.size w w' := by
  have kc := fun (w : World) (C : Array Value) (n c : Nat) => Lib.run_convert_bytes_const (P := Try.prog) w 22 5 C n c Try.underlying22 Try.underlying5
  have hr := Row.lit w 5 nineL #[.int .u8 49, .int .u8 50, .int .u8 51, .int .u8 52, .int .u8 53, .int .u8 54, .int .u8 55, .int .u8 56, .int .u8 57] (9, 10) (by simp [nineL, Lib.byteCells]) 9 rfl (by omega)
  have HR := Lib.hid (RowsAt.lit _ 22 _ _ _ _ hr (w.heap.size + 1) (by simp))
  have HB := Lib.hid (show Below w.heap.size w ((w.alloc (.cells #[.int .u8 49, .int .u8 50, .int .u8 51, .int .u8 52, .int .u8 53, .int .u8 54, .int .u8 55, .int .u8 56, .int .u8 57] 5 (9, 10))).alloc (.cells #[.slice (some ⟨w.heap.size, 0, none⟩) 9 9] 22)) from
    ((Below.refl _ w).alloc (Nat.le_refl _) _).alloc (by simp) _)
  clear hr
  go_enter Try.func13, Try.ntmps13
  go_wp2_with fail
  refine (of_nine _ _ _ HR.out).mono ?_
  rintro e w1 ⟨rfl, rfl⟩
  go_wp2_with fail
  go_ret
  exact ⟨rfl, HB.out⟩
end Go.Proofs.Ytefonnoeilojeaa
