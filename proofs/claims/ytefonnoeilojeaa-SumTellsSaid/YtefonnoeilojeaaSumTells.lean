/-
  Proved: the walk of the law SumTells: the sum, four bytes and their number are the document's, so it answers true and changes nothing that was there. Conditions: the bytes can be read; the number is below 2^32.
-/
import Derived.Test.YtefonnoeilojeaaSumFour
import Derived.Test.YtefonnoeilojeaaOfRef
namespace Go.Proofs.Ytefonnoeilojeaa
open Go Go.RowKit SumMath NetMem

theorem getB_few {l : List UInt8} (h : l.length < 4) : getB l = 0 := by
  match l, h with
  | [], _ => rfl
  | [_], _ => rfl
  | [_, _], _ => rfl
  | [_, _, _], _ => rfl
  | _ :: _ :: _ :: _ :: _, h => simp at h; omega

theorem get_any (p : Option Addr) (c : Nat) (l : List UInt8) (w : World) (h : Row w (.slice p l.length c) l) :
    Calls Try.prog 11 #[.slice p l.length c] w fun e w' => e = .returned (.int .u32 (getB l : Nat)) ∧ Below w.heap.size w w' := by
  rcases Nat.lt_or_ge l.length 4 with h4 | h4
  · refine (get_few p c l w h4).mono fun e w' ⟨he, hw⟩ => ?_
    subst hw
    exact ⟨by rw [he, getB_few h4]; rfl, Below.refl _ _⟩
  · exact get_all p c l w h h4
theorem refget_any (p : Option Addr) (c : Nat) (l : List UInt8) (w : World) (h : Row w (.slice p l.length c) l) :
    Calls Try.prog 12 #[.slice p l.length c] w fun e w' => e = .returned (.int .u32 (getB l : Nat)) ∧ Below w.heap.size w w' := by
  rcases Nat.lt_or_ge l.length 4 with h4 | h4
  · refine (refget_few p c l w h4).mono fun e w' ⟨he, hw⟩ => ?_
    subst hw
    exact ⟨by rw [he, getB_few h4]; rfl, Below.refl _ _⟩
  · exact refget_all p c l w h h4

/-- What the law's last statement uses: the row, its length, its sum, its number, n and n's bytes. -/
structure TellX (n : Nat) (l : List UInt8) (N : Nat) (m : List UInt8) (a : ByteArray) (s g z : Int) : Prop where
  len : l.length = n
  sum : ((sumOf l : Nat) : Int) = s
  num : ((getB l : Nat) : Int) = g
  nat : (N : Int) = z
  lt : N < 4294967296
  four : fourB N = m
  str : 0 < m.length ∧ (⟨m.toArray⟩ : ByteArray) = a

section
variable {w : World} {p : Option Addr} {n c : Nat} {l : List UInt8} {N : Nat} {m : List UInt8} {a : ByteArray} {s g z : Int} (X : TellX n l N m a s g z) (W : World)
include X

theorem of_tell (k : Nat) (hk : k = W.heap.size) (h : FourS w (.slice p n c) l W) :
    Calls Try.prog 7 #[.slice (some ⟨k, 0, none⟩) 1 1] (W.alloc (.cells #[.slice p n c] 22)) fun e w' => e = .returned (.int .u32 s) ∧ FourS w (.slice p n c) l w' := by
  refine (of_one _ _ l _ (RowsAt.lit W 22 p n c l h.1 k hk)).mono fun e w' ⟨he, hw⟩ => ?_
  subst hw
  exact ⟨by rw [he, X.sum], h.on ((Below.refl _ W).alloc (Nat.le_refl _) _)⟩

theorem refof_tell (h : FourS w (.slice p n c) l W) :
    Calls Try.prog 8 #[.slice p n c] W fun e w' => e = .returned (.int .u32 s) ∧ FourS w (.slice p n c) l w' := by
  obtain ⟨rfl, rfl, -, -, -, -, -⟩ := X
  refine (refof_any p c l W h.1).mono fun e w' ⟨he, hw⟩ => ?_
  subst hw
  exact ⟨he, h⟩

theorem four_tell (h : FourS w (.slice p n c) l W) :
    Calls Try.prog 9 #[.int .u32 z] W fun e w' => ∃ p2 c2, e = .returned (.slice p2 4 c2) ∧ Row w' (.slice p2 4 c2) m ∧ Below W.heap.size W w' ∧ FourS w (.slice p n c) l w' := by
  obtain ⟨-, -, -, rfl, hlt, rfl, -⟩ := X
  exact (four_any N hlt W).mono fun _ _ ⟨p2, c2, he, hr, hb⟩ => ⟨p2, c2, he, hr, hb, h.on hb⟩

theorem reffour_tell (h : FourS w (.slice p n c) l W) :
    Calls Try.prog 10 #[.int .u32 z] W fun e w' => ∃ p2 c2, e = .returned (.slice p2 4 c2) ∧ Row w' (.slice p2 4 c2) m ∧ Below W.heap.size W w' ∧ FourS w (.slice p n c) l w' := by
  obtain ⟨-, -, -, rfl, hlt, rfl, -⟩ := X
  exact (reffour_any N hlt W).mono fun _ _ ⟨p2, c2, he, hr, hb⟩ => ⟨p2, c2, he, hr, hb, h.on hb⟩

theorem get_tell (h : FourS w (.slice p n c) l W) :
    Calls Try.prog 11 #[.slice p n c] W fun e w' => e = .returned (.int .u32 g) ∧ FourS w (.slice p n c) l w' := by
  obtain ⟨rfl, -, rfl, -, -, -, -⟩ := X
  exact (get_any p c l W h.1).mono fun _ _ ⟨he, hb⟩ => ⟨he, h.on hb⟩

theorem refget_tell (h : FourS w (.slice p n c) l W) :
    Calls Try.prog 12 #[.slice p n c] W fun e w' => e = .returned (.int .u32 g) ∧ FourS w (.slice p n c) l w' := by
  obtain ⟨rfl, -, rfl, -, -, -, -⟩ := X
  exact (refget_any p c l W h.1).mono fun _ _ ⟨he, hb⟩ => ⟨he, h.on hb⟩

theorem back_tell (p2 : Option Addr) (c2 : Nat) (hr : Row W (.slice p2 4 c2) m) (h : FourS w (.slice p n c) l W) :
    Calls Try.prog 11 #[.slice p2 4 c2] W fun e w' => e = .returned (.int .u32 z) ∧ FourS w (.slice p n c) l w' := by
  obtain ⟨-, -, -, rfl, hlt, rfl, -⟩ := X
  refine (get_any p2 c2 (fourB N) W hr).mono fun _ _ ⟨he, hb⟩ => ⟨?_, h.on hb⟩
  rw [he, get_four N hlt]
end

theorem known_tell {w : World} {v : Value} {l : List UInt8} (W : World) (h : FourS w v l W) :
    Calls Try.prog 13 #[] W fun e w' => e = .returned (.bool true) ∧ FourS w v l w' :=
  (known_any W).mono fun _ _ ⟨he, hb⟩ => ⟨he, h.on hb⟩

theorem FourS.alloc {w : World} {v : Value} {l : List UInt8} {W : World} (h : FourS w v l W) (o : Obj) : FourS w v l (W.alloc o) := h.on ((Below.refl _ W).alloc (Nat.le_refl _) o)

theorem tells_long (p : Option Addr) (n c : Nat) (z : Int) (w : World) (h : 2000 < n) (hn : n ≤ 9223372036854775807) :
    Calls Try.prog 3 #[.slice p n c, .int .u32 z] w fun e w' => e = .returned (.bool true) ∧ Below w.heap.size w w' := by
  go_enter Try.func3, Try.ntmps3
  go_wp2_with fail
  go_ret
  exact ⟨rfl, Below.refl _ _⟩

set_option maxHeartbeats 4000000 in
set_option maxRecDepth 100000 in
theorem tells_in (p : Option Addr) (n c : Nat) (l : List UInt8) (N : Nat) (m : List UInt8) (a : ByteArray) (s g z : Int) (X : TellX n l N m a s g z) (w : World) (h : Row w (.slice p n c) l) (h2 : ¬ 2000 < n) :
    Calls Try.prog 3 #[.slice p n c, .int .u32 z] w fun e w' => e = .returned (.bool true) ∧ Below w.heap.size w w' := by
  have HX := Lib.hid X
  have HS := Lib.hid (show FourS w (.slice p n c) l w.drew from ⟨h.below (below_drew _ w), below_drew _ w⟩)
  have HOF := Lib.hid (show Calls Try.prog 7 #[.slice (some ⟨w.heap.size, 0, none⟩) 1 1] (w.alloc (.cells #[.slice p n c] 22)).drew (fun e w' => e = .returned (.int .u32 s) ∧ FourS w (.slice p n c) l w') from
    of_tell X w.drew w.heap.size rfl HS.out)
  clear X h
  go_enter Try.func3, Try.ntmps3
  go_wp2_with fail
  go_region_held (fun W => FourS w (.slice p n c) l W) (first | assumption | exact HS.out | exact FourS.alloc (by assumption) _)
    (first
      | (go_at_call 7; (with_reducible refine HOF.out.mono ?_); rintro e w1 ⟨rfl, hs1⟩)
      | (go_at_call 8; (with_reducible refine (refof_tell HX.out _ (by assumption)).mono ?_); rintro e w2 ⟨rfl, hs2⟩)
      | (go_at_call 9; (with_reducible refine (four_tell HX.out _ (by assumption)).mono ?_); rintro e w3 ⟨p3, c3, rfl, hr3, hb3, hs3⟩; have HR3 := Lib.hid hr3; have hcv3 := convD_of HX.out.str hr3; unfold convD at hcv3; clear hr3 hb3)
      | (go_at_call 10; (with_reducible refine (reffour_tell HX.out _ (by assumption)).mono ?_); rintro e w4 ⟨p4, c4, rfl, hr4, hb4, hs4⟩; have hcv4 := convD_of HX.out.str hr4; unfold convD at hcv4; (try (have hcx4 := convD_of HX.out.str (Row.below HR3.out hb4); unfold convD at hcx4)); clear hr4 hb4)
      | (go_at_call 11; (with_reducible refine (back_tell HX.out _ _ _ HR3.out (by assumption)).mono ?_); rintro e w5 ⟨rfl, hs5⟩)
      | (go_at_call 11; (with_reducible refine (get_tell HX.out _ (by assumption)).mono ?_); rintro e w6 ⟨rfl, hs6⟩)
      | (go_at_call 12; (with_reducible refine (refget_tell HX.out _ (by assumption)).mono ?_); rintro e w7 ⟨rfl, hs7⟩)
      | (go_at_call 13; (with_reducible refine (known_tell _ (by assumption)).mono ?_); rintro e w8 ⟨rfl, hs8⟩))
  all_goals
    have HE := Lib.hid (show Below w.heap.size w _ from hs8.2)
    clear hs8
    go_wp2_with fail
    go_ret
    exact ⟨rfl, HE.out⟩

/-- THE LAW's WALK. -/
theorem tells_law (p : Option Addr) (c : Nat) (l : List UInt8) (N : Nat) (hN : N < 4294967296) (w : World) (h : Row w (.slice p l.length c) l) :
    Calls Try.prog 3 #[.slice p l.length c, .int .u32 (N : Int)] w fun e w' => e = .returned (.bool true) ∧ Below w.heap.size w w' := by
  by_cases h2 : 2000 < l.length
  · have h3 := (Row.nums h).2
    have h4 := h3.2.1
    unfold maxLen at h4
    exact tells_long p l.length c N w h2 (by omega)
  · exact tells_in p l.length c l N (fourB N) _ _ _ _ ⟨rfl, rfl, rfl, rfl, hN, rfl, by simp [fourB], rfl⟩ w h h2
end Go.Proofs.Ytefonnoeilojeaa
