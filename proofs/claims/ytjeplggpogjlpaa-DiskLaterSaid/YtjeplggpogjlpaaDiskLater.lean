/-
  Proved: the walk of the law DiskLater: of two writes to one sector the later one is there, flushed or not; so it answers true and changes nothing that was there. Conditions: the bytes can be read.
-/
import Derived.Test.YtjeplggpogjlpaaDiskConv
import Derived.Deep.RegionHeld
import Derived.Deep.CutRange
namespace Go.Proofs.Ytjeplggpogjlpaa
open Go Go.RowKit DiskMath NetMem

theorem later_model (x y : List UInt8) (hx : x.length = 16) (hy : y.length = 16) : ∃ d1 d2 d3, (Dk.new 2).write 1 x = (0, d1) ∧ d1.write 1 y = (0, d2) ∧ d2.flush = (0, d3) ∧ (d2.read 1 = y ∧ d2.read 0 = pad []) ∧ (d3.read 1 = y ∧ d3.read 0 = pad []) ∧ d1.n < 4611686018427387904 ∧ d1.p.length < 4294967296 ∧ d2.n < 4611686018427387904 := by
  refine ⟨(Dk.new 2).put 1 x, ((Dk.new 2).put 1 x).put 1 y, (((Dk.new 2).put 1 x).put 1 y).flushed, ?_, ?_, rfl, ⟨rfl, rfl⟩, ⟨rfl, rfl⟩, show 1 < 4611686018427387904 by decide, show 1 < 4294967296 by decide, show 2 < 4611686018427387904 by decide⟩
  · unfold Dk.write
    rw [if_neg (by decide), if_neg (by omega), if_neg (by decide), if_neg (by decide)]
    rfl
  · have h1 : ((Dk.new 2).put 1 x).down = false := rfl
    have h2 : ((Dk.new 2).put 1 x).has 1 = true := rfl
    have h3 : ((Dk.new 2).put 1 x).hits = false := rfl
    unfold Dk.write
    rw [h1, h2, h3, if_neg (by decide), if_neg (by omega), if_neg (by decide), if_neg (by decide)]
    rfl

set_option maxHeartbeats 1000000 in
theorem later_out (p : Option Addr) (n c : Nat) (p' : Option Addr) (n' c' : Nat) (f : Bool) (w : World) (h : 16 < n ∨ 16 < n') :
    Calls Try.prog 5 #[.slice p n c, .slice p' n' c', .bool f] w fun e w' => e = .returned (.bool true) ∧ Below w.heap.size w w' := by
  rcases Classical.em ((16 : Int) < (n : Int)) with h1 | h1
  · clear h
    go_enter Try.func5, Try.ntmps5
    go_wp2_with fail
    all_goals
      go_ret
      exact ⟨rfl, Below.refl _ _⟩
  · have h2 : (16 : Int) < (n' : Int) := by omega
    clear h
    go_enter Try.func5, Try.ntmps5
    go_wp2_with fail
    all_goals
      go_ret
      exact ⟨rfl, Below.refl _ _⟩

/-- What holds while the law's last statement runs: the disk, and what was handed in. -/
def LaterS (w : World) (p : Value) (d : Dk) (v : Value) (l : List UInt8) (W : World) : Prop := St w W p d [] ∧ Row W v l
theorem LaterS.on {w W W' : World} {p : Value} {d : Dk} {v : Value} {l : List UInt8} (h : LaterS w p d v l W) (hb : Below W.heap.size W W') : LaterS w p d v l W' := ⟨h.1.below hb, h.2.below hb⟩

/-- A row of sixteen bytes, kept from the walk. -/
def Row16 (W : World) (v : Value) (l : List UInt8) : Prop := Row W v l
theorem Row16.on {W W' : World} {v : Value} {l : List UInt8} (h : Row16 W v l) (hb : Below W.heap.size W W') : Row16 W' v l := Row.below h hb
theorem Row16.conv {W : World} {q : Nat} {c : Nat} {l : List UInt8} {a : ByteArray} (h : Row16 W (.slice (some ⟨q, 0, none⟩) 16 c) l) (ha : (⟨l.toArray⟩ : ByteArray) = a) : (convert 22 9 (.slice (some ⟨q, 0, none⟩) 16 c)).run Try.prog W = .ok (.string a) W := by
  subst ha
  exact conv_row h

theorem later_read {w W : World} {p : Value} {d : Dk} {v : Value} {l : List UInt8} (h : LaterS w p d v l W) (i : Int) {m : List UInt8} (hr : d.read i = m) (hm : m.length = 16) {a : ByteArray} (ha : (⟨m.toArray⟩ : ByteArray) = a) :
    Calls Try.prog 13 #[p, .int .i64 i] W fun e w' => ∃ q c, e = .returned (.slice (some ⟨q, 0, none⟩) 16 c) ∧ (convert 22 9 (.slice (some ⟨q, 0, none⟩) 16 c)).run Try.prog w' = .ok (.string a) w' ∧ Row16 w' (.slice (some ⟨q, 0, none⟩) 16 c) m ∧ LaterS w p d v l w' := by
  obtain ⟨⟨D, hd, hb, hD, hrr⟩, hrow⟩ := h
  have := read_at hd i
  rw [hr] at this
  exact this.mono fun e w' ⟨v', he, ho, hbb⟩ => by
    obtain ⟨q, c, rfl, -⟩ := own_sixteen ho hm
    exact ⟨q, c, he, Row16.conv ho.row ha, ho.row, LaterS.on ⟨⟨D, hd, hb, hD, hrr⟩, hrow⟩ hbb⟩
theorem later_whole {w W : World} {p : Value} {d : Dk} {v : Value} {l : List UInt8} (h : LaterS w p d v l W) {p0 : Option Addr} {n0 c0 : Nat} {k : List UInt8} (hk : k.length = n0) (hrow : Row W (.slice p0 n0 c0) k) {a : ByteArray} (ha : (⟨(pad k).toArray⟩ : ByteArray) = a) :
    Calls Try.prog 9 #[.slice p0 n0 c0] W fun e w' => ∃ q c, e = .returned (.slice (some ⟨q, 0, none⟩) 16 c) ∧ (convert 22 9 (.slice (some ⟨q, 0, none⟩) 16 c)).run Try.prog w' = .ok (.string a) w' ∧ Below W.heap.size W w' ∧ LaterS w p d v l w' := by
  subst hk
  exact (whole_any p0 c0 k W hrow).mono fun e w' ⟨v', he, ho, hbb⟩ => by
    obtain ⟨q, c, rfl, -⟩ := own_sixteen ho (pad_length k)
    exact ⟨q, c, he, Row16.conv ho.row ha, hbb, h.on hbb⟩
theorem later_nil {w W : World} {p : Value} {d : Dk} {v : Value} {l : List UInt8} (h : LaterS w p d v l W) {a : ByteArray} (ha : (⟨(pad []).toArray⟩ : ByteArray) = a) :
    Calls Try.prog 9 #[.slice none 0 0] W fun e w' => ∃ q c, e = .returned (.slice (some ⟨q, 0, none⟩) 16 c) ∧ (convert 22 9 (.slice (some ⟨q, 0, none⟩) 16 c)).run Try.prog w' = .ok (.string a) w' ∧ Below W.heap.size W w' ∧ LaterS w p d v l w' :=
  later_whole h (k := []) rfl (Own.nil _ 0).row ha
theorem LaterS.row {w W : World} {p : Value} {d : Dk} {v : Value} {l : List UInt8} (h : LaterS w p d v l W) : Row W v l := h.2
theorem later_known {w W : World} {p : Value} {d : Dk} {v : Value} {l : List UInt8} (h : LaterS w p d v l W) :
    Calls Try.prog 17 #[] W fun e w' => e = .returned (.bool true) ∧ LaterS w p d v l w' :=
  (known_any W).mono fun _ _ ⟨he, hb⟩ => ⟨he, h.on hb⟩

set_option maxHeartbeats 8000000 in
set_option maxRecDepth 100000 in
theorem later_in (p : Option Addr) (c : Nat) (l : List UInt8) (p' : Option Addr) (c' : Nat) (l' : List UInt8) (f : Bool) (w : World) (h : Row w (.slice p l.length c) l) (h' : Row w (.slice p' l'.length c') l') (h1 : l.length ≤ 16) (h2 : l'.length ≤ 16) :
    Calls Try.prog 5 #[.slice p l.length c, .slice p' l'.length c', .bool f] w fun e w' => e = .returned (.bool true) ∧ Below w.heap.size w w' := by
  have HH := Lib.hid (And.intro h h')
  have hl1 : (l.length : Int) ≤ (16 : Int) := by omega
  have hl2 : (l'.length : Int) ≤ (16 : Int) := by omega
  obtain ⟨d1, d2, d3, hm⟩ := later_model (pad l) (pad l') (pad_length l) (pad_length l')
  have HM := Lib.hid hm
  obtain ⟨sa, hsa⟩ : ∃ sa : ByteArray, (⟨(pad l').toArray⟩ : ByteArray) = sa := ⟨_, rfl⟩
  obtain ⟨sz, hsz⟩ : ∃ sz : ByteArray, (⟨(pad []).toArray⟩ : ByteArray) = sz := ⟨_, rfl⟩
  have HSA := Lib.hid (And.intro hsa hsz)
  clear h h' h1 h2 hm hsa hsz
  go_enter Try.func5, Try.ntmps5
  go_wp2_with fail
  refine (new_st 2 (by omega) 2 rfl w).mono ?_
  rintro e w1 ⟨g, rfl, hs⟩
  have HS := Lib.hid hs
  clear hs
  go_wp2_with fail
  refine (whole_any p c l w1 (HH.out.1.below HS.out.old)).mono ?_
  rintro e w2 ⟨v, rfl, ho, hb⟩
  have H2 := Lib.hid (HS.out.below hb)
  have HO := Lib.hid ho.row
  clear ho hb
  go_wp2_with fail
  refine (write_st H2.out 1 HO.out HM.out.1 (by decide) (by decide)).mono ?_
  rintro e w3 ⟨rfl, hs⟩
  have H3 := Lib.hid hs
  clear hs
  go_wp2_with fail
  refine (whole_any p' c' l' w3 (HH.out.2.below H3.out.old)).mono ?_
  rintro e w4 ⟨v', rfl, ho, hb⟩
  have H4 := Lib.hid (H3.out.below hb)
  have HO' := Lib.hid ho.row
  clear ho hb
  go_wp2_with fail
  refine (write_st H4.out 1 HO'.out HM.out.2.1 HM.out.2.2.2.2.2.1 HM.out.2.2.2.2.2.2.1).mono ?_
  rintro e w5 ⟨rfl, hs⟩
  have H5 := Lib.hid hs
  clear hs
  go_upto_region 5 with fail
  go_cut [32] from 27 to 32 (fun v32 wx => v32 = .bool false ∧ ∃ d, St w wx (.pointer (some ⟨g, 0, none⟩)) d [] ∧ d.read 1 = pad l' ∧ d.read 0 = pad [])
  case first =>
    cases f
    · go_wp2_with fail
      go_meet
      exact ⟨rfl, d2, H5.out, HM.out.2.2.2.1⟩
    · go_wp2_with fail
      refine (flush_st H5.out HM.out.2.2.1 HM.out.2.2.2.2.2.2.2).mono ?_
      rintro e w6 ⟨rfl, hs⟩
      have H6 := Lib.hid hs
      clear hs
      go_wp2_with fail
      go_meet
      exact ⟨rfl, d3, H6.out, HM.out.2.2.2.2.1⟩
  case rest =>
  obtain ⟨rfl, d, hs, hrd1, hrd0⟩ := hcut
  have HR := Lib.hid (And.intro hrd1 hrd0)
  have HW := Lib.hid (show LaterS w (.pointer (some ⟨g, 0, none⟩)) d (.slice p' l'.length c') l' wc.drew from LaterS.on ⟨hs, HH.out.2.below hs.old⟩ (below_drew _ _))
  clear hs hrd1 hrd0
  go_wp2_with fail
  go_region_held (fun W => LaterS w (.pointer (some ⟨g, 0, none⟩)) d (.slice p' l'.length c') l' W) (first | assumption | exact HW.out)
    (first
      | (go_at_call 13; (with_reducible refine (later_read (by assumption) 1 HR.out.1 (pad_length _) HSA.out.1).mono ?_); rintro e w6 ⟨q6, c6, rfl, hcv6, hr6, hs6⟩)
      | (go_at_call 13; (with_reducible refine (later_read (by assumption) 0 HR.out.2 (pad_length _) HSA.out.2).mono ?_); rintro e w8 ⟨q8, c8, rfl, hcv8, hr8, hs8⟩)
      | (go_at_call 9; (with_reducible refine (later_whole (v := .slice p' l'.length c') (l := l') (by assumption) (k := l') rfl (LaterS.row (by assumption)) HSA.out.1).mono ?_); rintro e w7 ⟨q7, c7, rfl, hcv7, hb7, hs7⟩; have hcv6' := (hr6.on hb7).conv HSA.out.1)
      | (go_at_call 9; (with_reducible refine (later_nil (v := .slice p' l'.length c') (l := l') (by assumption) HSA.out.2).mono ?_); rintro e w9 ⟨q9, c9, rfl, hcv9, hb9, hs9⟩; have hcv8' := (hr8.on hb9).conv HSA.out.2)
      | (go_at_call 17; (with_reducible refine (later_known (by assumption)).mono ?_); rintro e w10 ⟨rfl, hs10⟩))
  all_goals
    have HE := Lib.hid (show Below w.heap.size w w10 from hs10.1.old)
    clear hs10
    go_wp2_with fail
    go_ret
    exact ⟨rfl, HE.out⟩

/-- THE LAW's WALK. -/
theorem later_law (p : Option Addr) (c : Nat) (l : List UInt8) (p' : Option Addr) (c' : Nat) (l' : List UInt8) (f : Bool) (w : World) (h : Row w (.slice p l.length c) l) (h' : Row w (.slice p' l'.length c') l') :
    Calls Try.prog 5 #[.slice p l.length c, .slice p' l'.length c', .bool f] w fun e w' => e = .returned (.bool true) ∧ Below w.heap.size w w' := by
  by_cases h16 : 16 < l.length ∨ 16 < l'.length
  · exact later_out p l.length c p' l'.length c' f w h16
  · exact later_in p c l p' c' l' f w h h' (by omega) (by omega)
end Go.Proofs.Ytjeplggpogjlpaa
