/-
  Proved: the walk of the law NetPuts: a number's and a text's bytes are the document's, and are read back; so it answers true and changes nothing that was there. Conditions: the number is an int64; the library's table and its two sentinel errors read as laid.
-/
import Derived.Test.YtnikbdabajoaaaaDoorCut
import Derived.Deep.RegionHeld
namespace Go.Proofs.YtnikbdabajoaaaaDoor
open Go Go.Shelf Go.RowKit NetMath NetMem

/-- What holds of the world while the law's last statement runs: b's bytes can be read, the Reader has nothing left. -/
def PutS (w : World) (r : Nat) (v : Value) (l : List UInt8) (W : World) : Prop := Rd 48 W r [] ∧ Row W v l ∧ Glob W ∧ Below w.heap.size w W

theorem PutS.on {w : World} {r : Nat} {v : Value} {l : List UInt8} {W W' : World} (h : PutS w r v l W) (hb : Below W.heap.size W W') : PutS w r v l W' :=
  ⟨h.1.below hb, h.2.1.below hb, h.2.2.1.below hb, h.2.2.2.trans (hb.mono h.2.2.2.size)⟩

/-- .. and what a conversion of b yields. -/
def convD (v : Value) (a : ByteArray) (W : World) : Prop := (convert 22 9 v).run Tryd.prog W = .ok (.string a) W

theorem convD_of {p : Option Addr} {k c : Nat} {l : List UInt8} {a : ByteArray} (ha : (⟨l.toArray⟩ : ByteArray) = a) {W : World} (h : Row W (.slice p k c) l) : convD (.slice p k c) a W := by
  subst ha
  exact Row.convert h

theorem left_put {w : World} {r : Nat} {v : Value} {l : List UInt8} {a : ByteArray} (W : World) (h : ((convert 22 9 v).run Tryd.prog W = .ok (.string a) W) ∧ PutS w r v l W) :
    Calls Tryd.prog 15 #[.pointer (some ⟨r, 0, none⟩)] W fun e w' => e = .returned (.int .i64 0) ∧ W = w' := left_any r [] W h.2.1

theorem known_put {w : World} {r : Nat} {p : Option Addr} {k c : Nat} {l : List UInt8} {a : ByteArray} (ha : (⟨l.toArray⟩ : ByteArray) = a) (W : World) (h : ((convert 22 9 (.slice p k c)).run Tryd.prog W = .ok (.string a) W) ∧ PutS w r (.slice p k c) l W) :
    Calls Tryd.prog 16 #[] W fun e w' => e = .returned (.bool true) ∧ (((convert 22 9 (.slice p k c)).run Tryd.prog w' = .ok (.string a) w') ∧ PutS w r (.slice p k c) l w') :=
  (known_any W h.2.2.2.1).mono fun _ _ ⟨he, hb⟩ => ⟨he, convD_of ha (h.2.on hb).2.1, h.2.on hb⟩

theorem ref13_put {w : World} {r : Nat} {p : Option Addr} {k c : Nat} {l : List UInt8} {a : ByteArray} (ha : (⟨l.toArray⟩ : ByteArray) = a) (n : Int) (hn : I64 n) (kn : Nat) (hkn : (numB n).length = kn) (W : World) (h : ((convert 22 9 (.slice p k c)).run Tryd.prog W = .ok (.string a) W) ∧ PutS w r (.slice p k c) l W) :
    Calls Tryd.prog 13 #[.int .i64 n] W fun e w' => ∃ p2 c2, e = .returned (.slice p2 kn c2) ∧ Row w' (.slice p2 kn c2) (numB n) ∧ Below W.heap.size W w' ∧ (((convert 22 9 (.slice p k c)).run Tryd.prog w' = .ok (.string a) w') ∧ PutS w r (.slice p k c) l w') :=
  (refnum_any n hn W).mono fun e w' ⟨v, he, ho, hb⟩ => by
    obtain ⟨p2, c2, hv, -⟩ := id ho.row
    subst hkn
    subst hv
    exact ⟨p2, c2, he, ho.row, hb, convD_of ha (h.2.on hb).2.1, h.2.on hb⟩

theorem ref14_put {w : World} {r : Nat} {p : Option Addr} {k c : Nat} {l : List UInt8} {a : ByteArray} (ha : (⟨l.toArray⟩ : ByteArray) = a) (s : ByteArray) (hs : s.size ≤ 140737488355296) (kn : Nat) (hkn : (textB s.data.toList).length = kn) (W : World) (h : ((convert 22 9 (.slice p k c)).run Tryd.prog W = .ok (.string a) W) ∧ PutS w r (.slice p k c) l W) :
    Calls Tryd.prog 14 #[.string s] W fun e w' => ∃ p2 c2, e = .returned (.slice p2 kn c2) ∧ Row w' (.slice p2 kn c2) (textB s.data.toList) ∧ Below W.heap.size W w' ∧ (((convert 22 9 (.slice p k c)).run Tryd.prog w' = .ok (.string a) w') ∧ PutS w r (.slice p k c) l w') :=
  (reftext_any2 s _ rfl kn hkn hs W).mono fun _ _ ⟨p2, c2, he, hr, hb⟩ => ⟨p2, c2, he, hr, hb, convD_of ha (h.2.on hb).2.1, h.2.on hb⟩

theorem puts_long (n : Int) (s : ByteArray) (hs : 300 < s.size) (w : World) :
    Calls Tryd.prog 3 #[.int .i64 n, .string s] w fun e w' => e = .returned (.bool true) ∧ Below w.heap.size w w' := by
  go_enter Tryd.func3, Tryd.ntmps3
  go_wp2_with fail
  go_ret
  exact ⟨rfl, Below.refl _ _⟩

set_option maxHeartbeats 4000000 in
set_option maxRecDepth 100000 in
theorem puts_in (n : Int) (hn : I64 n) (s : ByteArray) (hs : ¬ 300 < s.size) (w : World) (hg : Glob w) :
    Calls Tryd.prog 3 #[.int .i64 n, .string s] w fun e w' => e = .returned (.bool true) ∧ Below w.heap.size w w' := by
  obtain ⟨i0, hi, hz0, hz1, hz2⟩ := info_parts info5
  have hsl := size_len s
  have hnl := numB_len n hn
  have htl := textB_len s.data.toList (by omega)
  have hnt := num_take n hn (textB s.data.toList)
  have htt := text_takes s.data.toList (by omega) []
  rw [List.append_nil] at htt
  have HN := Lib.hid hnt
  have HT := Lib.hid htt
  have HI := Lib.hid hn
  have HG := Lib.hid hg
  have HL := Lib.hid (And.intro hsl (And.intro hnl htl))
  obtain ⟨m, hm⟩ : ∃ m, (textB s.data.toList).length = m := ⟨_, rfl⟩
  have HT1 := Lib.hid (text_any2 s _ rfl m hm (by omega))
  have HM := Lib.hid hm
  clear hsl hnl htl hnt htt hn hg hm
  go_enter Tryd.func3, Tryd.ntmps3
  go_wp2_with fail
  refine (num_any n HI.out w HG.out.1).mono ?_
  rintro e w1 ⟨v1, rfl, ho1, hb1⟩
  have HO := Lib.hid ho1
  have HB := Lib.hid hb1
  clear ho1 hb1
  go_wp2_with fail
  refine (HT1.out w1 (HG.out.below HB.out).1).mono ?_
  rintro e w2 ⟨p2, c2, rfl, hrow2, hb2⟩
  have HO2 := Lib.hid (HO.out.below hb2)
  have hsrc := Row.src (P := Tryd.prog) hrow2 Tryd.underlying22
  have hlt2 := HO2.out.lt
  have HB2 := Lib.hid (HB.out.trans (hb2.mono HB.out.size))
  rw [HM.out] at hsrc
  clear hb2 hrow2 HO
  have HSRC := Lib.hid hsrc
  clear hsrc
  have HLT := Lib.hid hlt2
  clear hlt2
  go_wp2_with (at_builtin; refine wpList_append_bytes _ rfl _ _ 22 22 rfl 5 i0 Tryd.underlying22 hi hz0 hz1 hz2 w.heap.size _ _ rfl HO2.out _ (textB s.data.toList) rfl (by rw [HM.out]; exact HSRC.out) ?lim ?hB ?_)
  case lim => have := HL.out; omega
  case hB => exact HB2.out.size
  intro v3 w3 ho3 hg3 _
  have HB3 := Lib.hid (HB2.out.grown hg3 HB2.out.size (fun k hk => (HLT.out k hk).1))
  have HR3 := Lib.hid ho3.row
  clear ho3 hg3 HLT HO2 HSRC
  have hb3l : (numB n ++ textB s.data.toList).length ≤ 140737488355328 := by rw [List.length_append]; have := HL.out; omega
  have HL3 := Lib.hid hb3l
  clear hb3l
  go_wp2_with fail
  refine (new_any _ _ HL3.out w3 HR3.out).mono ?_
  rintro e w4 ⟨r, rfl, hr0, hr1, hrd, hb4⟩
  have hr : w.heap.size ≤ r := Nat.le_trans HB3.out.size hr0
  have HB4 := Lib.hid (HB3.out.trans (hb4.mono HB3.out.size))
  have HR4 := Lib.hid (HR3.out.below hb4)
  have HRD := Lib.hid hrd
  clear hr0 hr1 hrd hb4
  go_wp2_with fail
  refine (rnum_any r _ HL3.out w4 HRD.out (HG.out.below HB4.out)).mono ?_
  rintro e w5 ⟨rfl, hrd5, hk5⟩
  rw [HN.out.1, HN.out.2.1]
  rw [HN.out.2.2] at hrd5
  have HB5 := Lib.hid (HB4.out.trans (hk5.below HB4.out.size hr))
  have HR5 := Lib.hid (Row.kept_rd HRD.out hk5 HR4.out)
  have HRD5 := Lib.hid hrd5
  clear hrd5 hk5 HRD HR4
  go_wp2_with fail
  refine (rtext_any r _ (by rw [List.length_append] at HL3; exact Nat.le_trans (Nat.le_add_left _ _) HL3.out) w5 HRD5.out (HG.out.below HB5.out)).mono ?_
  rintro e w6 ⟨rfl, hrd6, hk6⟩
  rw [HT.out.1, HT.out.2.1]
  rw [HT.out.2.2] at hrd6
  rw [show (⟨s.data.toList.toArray⟩ : ByteArray) = s from rfl]
  obtain ⟨p3, c3, hv3, -⟩ := id HR5.out
  obtain ⟨k3, hk3⟩ : ∃ k3, (numB n ++ textB s.data.toList).length = k3 := ⟨_, rfl⟩
  obtain ⟨kn, hkn⟩ : ∃ kn, (numB n).length = kn := ⟨_, rfl⟩
  obtain ⟨a, ha⟩ : ∃ a : ByteArray, (⟨(numB n).toArray⟩ : ByteArray) = a := ⟨_, rfl⟩
  obtain ⟨b, hb⟩ : ∃ b : ByteArray, (⟨(textB s.data.toList).toArray⟩ : ByteArray) = b := ⟨_, rfl⟩
  obtain ⟨sv, hsv⟩ : ∃ sv : ByteArray, (⟨(numB n ++ textB s.data.toList).toArray⟩ : ByteArray) = sv := ⟨_, rfl⟩
  have hab : a ++ b = sv := by rw [← ha, ← hb, ← hsv, ba_append]
  have hsa : a.size ≤ 1000 := by rw [← ha]; show (numB n).toArray.size ≤ 1000; have := HL.out; simp; omega
  have hsb : b.size ≤ 1000 := by rw [← hb]; show (textB s.data.toList).toArray.size ≤ 1000; have := HL.out; simp; omega
  have hssv : sv.size ≤ 2000 := by rw [← hsv]; show (numB n ++ textB s.data.toList).toArray.size ≤ 2000; have := HL.out; simp; omega
  subst hv3
  rw [hk3] at HR5 ⊢
  have HS6 := Lib.hid (show ((convert 22 9 (.slice p3 k3 c3)).run Tryd.prog w6.drew = .ok (.string sv) w6.drew) ∧ PutS w r (.slice p3 k3 c3) (numB n ++ textB s.data.toList) w6.drew from
    have hr6 := Row.kept_rd HRD5.out hk6 HR5.out
    have hb6 := HB5.out.trans (hk6.below HB5.out.size hr)
    ⟨convD_of hsv (Row.below hr6 (below_drew _ w6)), hrd6, hr6, (HG.out.below hb6).below (below_drew _ w6), hb6.trans (below_drew _ w6)⟩)
  have HX := Lib.hid (And.intro hkn (And.intro ha (And.intro hb hsv)))
  have HS := Lib.hid hs
  clear hrd6 hk6 HRD5 HR5 HB5 HB4 HB3 HB2 HB hkn ha hb hsv hk3
  go_wp2_with fail
  go_region_held (fun W => ((convert 22 9 (.slice p3 k3 c3)).run Tryd.prog W = .ok (.string sv) W) ∧ PutS w r (.slice p3 k3 c3) (numB n ++ textB s.data.toList) W) (first | assumption | exact HS6.out)
    (first
      | (go_at_call 13; (with_reducible refine (ref13_put HX.out.2.2.2 n HI.out kn HX.out.1 _ (by assumption)).mono ?_); rintro e w7 ⟨p7, c7, rfl, hr7, hb7, hs7⟩; have HR7 := Lib.hid hr7; have hcv7 := convD_of HX.out.2.1 hr7; unfold convD at hcv7; (try (have hcx7 := convD_of HX.out.2.2.1 (Row.below HR8.out hb7); unfold convD at hcx7)); clear hr7 hb7)
      | (go_at_call 14; (with_reducible refine (ref14_put HX.out.2.2.2 s (by have := HS.out; omega) m HM.out _ (by assumption)).mono ?_); rintro e w8 ⟨p8, c8, rfl, hr8, hb8, hs8⟩; have HR8 := Lib.hid hr8; have hcv8 := convD_of HX.out.2.2.1 hr8; unfold convD at hcv8; (try (have hcx8 := convD_of HX.out.2.1 (Row.below HR7.out hb8); unfold convD at hcx8)); clear hr8 hb8)
      | (go_at_call 15; (with_reducible refine (left_put _ (by assumption)).mono ?_); rintro e w9 ⟨rfl, rfl⟩)
      | (go_at_call 16; (with_reducible refine (known_put HX.out.2.2.2 _ (by assumption)).mono ?_); rintro e w10 ⟨rfl, hs10⟩))
  all_goals
    have HE := Lib.hid (show Below w.heap.size w _ from hs10.2.2.2.2)
    clear hs10
    go_wp2_with fail
    go_ret
    exact ⟨rfl, HE.out⟩

/-- THE LAW's WALK. -/
theorem puts_law (n : Int) (hn : I64 n) (s : ByteArray) (w : World) (hg : Glob w) :
    Calls Tryd.prog 3 #[.int .i64 n, .string s] w fun e w' => e = .returned (.bool true) ∧ Below w.heap.size w w' := by
  by_cases h : 300 < s.size
  · exact puts_long n s h w
  · exact puts_in n hn s h w hg
end Go.Proofs.YtnikbdabajoaaaaDoor
