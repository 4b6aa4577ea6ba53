/-
  Proved: the walk of the law SumFour: any four bytes are a number, and that these, so it answers true and changes nothing that was there. Conditions: the bytes can be read.
-/
import Derived.Test.YtefonnoeilojeaaSumKnown
import Derived.Deep.RegionHeld
import Derived.Lib.ConvBytes
namespace Go.Proofs.Ytefonnoeilojeaa
open Go Go.RowKit SumMath NetMem

theorem numsL_getD (l : List UInt8) (i : Nat) (h : i < l.length) : (Lib.numsL l).getD i 0 = (l[i].toNat : Int) := by
  simp [Lib.numsL, List.getD, h]

theorem str_nums (l : List UInt8) : strOfNums (Lib.numsL l) = ⟨l.toArray⟩ := by
  unfold strOfNums Lib.numsL
  congr 1
  rw [List.map_map]
  congr 1
  conv => rhs; rw [← List.map_id l]
  apply List.map_congr_left
  intro x _
  simp

theorem Row.convert {w : World} {p : Option Addr} {n cap : Nat} {l : List UInt8} (h : Row w (.slice p n cap) l) (h0 : 0 < l.length) :
    (convert 22 9 (.slice p n cap)).run Try.prog w = .ok (.string ⟨l.toArray⟩) w := by
  obtain ⟨rfl, hlc, -, hc⟩ := Row.nums h
  obtain ⟨b, o, rfl, hcc⟩ := hc (by omega)
  have := run_convert_bytes_arg (P := Try.prog) w 22 5 Try.underlying22 Try.underlying5 b o l.length cap (Lib.numsL l) (Lib.numsL_length l) (fun i hi => by rw [numsL_getD l i hi]; exact hcc i hi) 9 Try.underlying9
  rwa [str_nums] at this

theorem below_drew (B : Nat) (w : World) : Below B w w.drew := ⟨rfl, rfl, rfl, Nat.le_refl _, fun _ _ => rfl⟩

/-- What a conversion of a row yields. -/
def convD (v : Value) (a : ByteArray) (W : World) : Prop := (convert 22 9 v).run Try.prog W = .ok (.string a) W

theorem convD_of {p : Option Addr} {k c : Nat} {l : List UInt8} {a : ByteArray} (ha : 0 < l.length ∧ (⟨l.toArray⟩ : ByteArray) = a) {W : World} (h : Row W (.slice p k c) l) : convD (.slice p k c) a W := by
  obtain ⟨h0, rfl⟩ := ha
  exact Row.convert h h0

/-- What holds of the world while the law's last statement runs. -/
def FourS (w : World) (v : Value) (l : List UInt8) (W : World) : Prop := Row W v l ∧ Below w.heap.size w W

theorem FourS.on {w : World} {v : Value} {l : List UInt8} {W W' : World} (h : FourS w v l W) (hb : Below W.heap.size W W') : FourS w v l W' := ⟨h.1.below hb, h.2.trans (hb.mono h.2.size)⟩

theorem four_put {w : World} {p : Option Addr} {k c : Nat} {l : List UInt8} {a : ByteArray} (ha : 0 < l.length ∧ (⟨l.toArray⟩ : ByteArray) = a) (z : Int) (n : Nat) (hz : (n : Int) = z) (hn : n < 4294967296) (m : List UInt8) (hm : fourB n = m) (W : World) (h : ((convert 22 9 (.slice p k c)).run Try.prog W = .ok (.string a) W) ∧ FourS w (.slice p k c) l W) :
    Calls Try.prog 9 #[.int .u32 z] W fun e w' => ∃ p2 c2, e = .returned (.slice p2 4 c2) ∧ Row w' (.slice p2 4 c2) m ∧ (((convert 22 9 (.slice p k c)).run Try.prog w' = .ok (.string a) w') ∧ FourS w (.slice p k c) l w') := by
  subst hz
  subst hm
  exact (four_any n hn W).mono fun _ _ ⟨p2, c2, he, hr, hb⟩ => ⟨p2, c2, he, hr, convD_of ha (h.2.on hb).1, h.2.on hb⟩

theorem get_put {w : World} {p : Option Addr} {k c : Nat} {l : List UInt8} {a : ByteArray} (ha : 0 < l.length ∧ (⟨l.toArray⟩ : ByteArray) = a) (hk : l.length = k) (h4 : 4 ≤ l.length) (z : Int) (hz : (getB l : Nat) = z) (W : World) (h : ((convert 22 9 (.slice p k c)).run Try.prog W = .ok (.string a) W) ∧ FourS w (.slice p k c) l W) :
    Calls Try.prog 11 #[.slice p k c] W fun e w' => e = .returned (.int .u32 z) ∧ (((convert 22 9 (.slice p k c)).run Try.prog w' = .ok (.string a) w') ∧ FourS w (.slice p k c) l w') := by
  subst hk
  subst hz
  exact (get_all p c l W h.2.1 h4).mono fun _ _ ⟨he, hb⟩ => ⟨he, convD_of ha (h.2.on hb).1, h.2.on hb⟩

theorem known_put {w : World} {p : Option Addr} {k c : Nat} {l : List UInt8} {a : ByteArray} (ha : 0 < l.length ∧ (⟨l.toArray⟩ : ByteArray) = a) (W : World) (h : ((convert 22 9 (.slice p k c)).run Try.prog W = .ok (.string a) W) ∧ FourS w (.slice p k c) l W) :
    Calls Try.prog 13 #[] W fun e w' => e = .returned (.bool true) ∧ (((convert 22 9 (.slice p k c)).run Try.prog w' = .ok (.string a) w') ∧ FourS w (.slice p k c) l w') :=
  (known_any W).mono fun _ _ ⟨he, hb⟩ => ⟨he, convD_of ha (h.2.on hb).1, h.2.on hb⟩

theorem getB_lt (l : List UInt8) : getB l < 4294967296 := by
  unfold getB
  split
  · rename_i a b c d _
    have ha := a.toNat_lt; have hb := b.toNat_lt; have hc := c.toNat_lt; have hd := d.toNat_lt
    omega
  · omega
theorem four_back (l : List UInt8) (h : l.length = 4) : fourB (getB l) = l := by
  match l, h with
  | [a, b, c, d], _ => exact four_get a b c d

set_option maxHeartbeats 2000000 in
set_option maxRecDepth 100000 in
theorem four_few (p : Option Addr) (c : Nat) (l : List UInt8) (w : World) (h4 : l.length < 4) :
    Calls Try.prog 6 #[.slice p l.length c] w fun e w' => e = .returned (.bool true) ∧ Below w.heap.size w w' := by
  have hne : ((l.length : Int) == 4) = false := by simp; omega
  have HG := Lib.hid (get_few p c l w h4)
  go_enter Try.func6, Try.ntmps6
  go_wp2_with fail
  refine HG.out.mono ?_
  rintro e w1 ⟨rfl, rfl⟩
  go_wp2_with fail
  refine (known_any _).mono ?_
  rintro e w2 ⟨rfl, hb⟩
  have HB := Lib.hid hb
  clear hb
  go_wp2_with fail
  go_ret
  exact ⟨rfl, HB.out⟩

set_option maxHeartbeats 2000000 in
set_option maxRecDepth 100000 in
theorem four_more (p : Option Addr) (n c : Nat) (w : World) (h4 : 4 < n) :
    Calls Try.prog 6 #[.slice p n c] w fun e w' => e = .returned (.bool true) ∧ Below w.heap.size w w' := by
  have hne : ((n : Int) == 4) = false := by simp; omega
  go_enter Try.func6, Try.ntmps6
  go_wp2_with fail
  refine (known_any _).mono ?_
  rintro e w2 ⟨rfl, hb⟩
  have HB := Lib.hid hb
  clear hb
  go_wp2_with fail
  go_ret
  exact ⟨rfl, HB.out⟩

set_option maxHeartbeats 4000000 in
set_option maxRecDepth 100000 in
theorem four_in (p : Option Addr) (c : Nat) (l : List UInt8) (w : World) (h : Row w (.slice p 4 c) l) (h4 : l.length = 4) :
    Calls Try.prog 6 #[.slice p 4 c] w fun e w' => e = .returned (.bool true) ∧ Below w.heap.size w w' := by
  obtain ⟨a, ha⟩ : ∃ a : ByteArray, (⟨l.toArray⟩ : ByteArray) = a := ⟨_, rfl⟩
  obtain ⟨z, hz⟩ : ∃ z : Int, ((getB l : Nat) : Int) = z := ⟨_, rfl⟩
  have HX := Lib.hid (And.intro (And.intro (show 0 < l.length by omega) ha) (And.intro hz h4))
  have HS := Lib.hid (show ((convert 22 9 (.slice p 4 c)).run Try.prog w.drew = .ok (.string a) w.drew) ∧ FourS w (.slice p 4 c) l w.drew from
    ⟨convD_of ⟨by omega, ha⟩ (h.below (below_drew _ w)), h.below (below_drew _ w), below_drew _ w⟩)
  clear ha hz h4 h
  go_enter Try.func6, Try.ntmps6
  go_wp2_with fail
  go_region_held (fun W => ((convert 22 9 (.slice p 4 c)).run Try.prog W = .ok (.string a) W) ∧ FourS w (.slice p 4 c) l W) (first | assumption | exact HS.out)
    (first
      | (go_at_call 11; (with_reducible refine (get_put HX.out.1 HX.out.2.2 (by have := HX.out.2.2; omega) z HX.out.2.1 _ (by assumption)).mono ?_); rintro e w7 ⟨rfl, hs7⟩)
      | (go_at_call 9; (with_reducible refine (four_put HX.out.1 z (getB l) HX.out.2.1 (getB_lt l) l (four_back l HX.out.2.2) _ (by assumption)).mono ?_); rintro e w8 ⟨p8, c8, rfl, hr8, hs8⟩; have hcv8 := convD_of HX.out.1 hr8; unfold convD at hcv8; clear hr8)
      | (go_at_call 13; (with_reducible refine (known_put HX.out.1 _ (by assumption)).mono ?_); rintro e w10 ⟨rfl, hs10⟩))
  all_goals
    have HE := Lib.hid (show Below w.heap.size w _ from hs10.2.2)
    clear hs10
    go_wp2_with fail
    go_ret
    exact ⟨rfl, HE.out⟩

/-- THE LAW's WALK. -/
theorem four_law (p : Option Addr) (c : Nat) (l : List UInt8) (w : World) (h : Row w (.slice p l.length c) l) :
    Calls Try.prog 6 #[.slice p l.length c] w fun e w' => e = .returned (.bool true) ∧ Below w.heap.size w w' := by
  rcases Nat.lt_trichotomy l.length 4 with h4 | h4 | h4
  · exact four_few p c l w h4
  · rw [h4] at h ⊢
    exact four_in p c l w h h4
  · exact four_more p l.length c w h4
end Go.Proofs.Ytefonnoeilojeaa
