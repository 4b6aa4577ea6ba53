/-
  Proved: the law MarkPlays answers true: of every row of marks, wherever, with a crash in one of them, each answer and all that is scanned is what the statements' own package answers. Conditions: the arguments can be read; the library's table and its two sentinel errors read as laid.
-/
import Derived.Test.YtilplpjdbkipoaaGreatDoorMarkTwo
import Derived.Test.YtilplpjdbkipoaaGreatDoorMarkArgP
namespace Go.Proofs.YtilplpjdbkipoaaGreatDoor
open Go Go.RowKit DiskMath NetMath NetMem SpanMath SumMath MarkMath

/-- The loop's words. -/
def RelM (ls : List Mk) (w1 : World) (p q nx i : Value) (wr : World) : Prop :=
  ∃ (k : Nat) (z : Int) (d : Dk), k ≤ ls.length ∧ i = .int .i64 (k : Int) ∧ nx = .int .i64 z ∧ d.n = 0 ∧ d.p = [] ∧ StX w1 wr p d q d []

set_option maxHeartbeats 40000000 in
set_option maxRecDepth 100000 in
theorem mplays_in (n : Nat) (p : Option Addr) (c : Nat) (ls : List Mk) (pp : Option Addr) (pc : Nat) (pl : List Int) (at_ cat : Int) (cq : Option Addr) (cc : Nat) (lf : List Int) (w : World)
    (h : MksIn w p ls) (hpl : IntsAt w pp pl) (hkl : KeepsAt w (.slice cq lf.length cc) lf) (hg : NetP.Glob w) (h80 : n ≤ 80) (h15 : ls.length ≤ 15) (h50 : lf.length ≤ 50) :
    Calls Tryz.prog 3 #[.int .i64 (n : Int), .slice p ls.length c, .slice pp pl.length pc, .int .i64 at_, .agg #[.int .i64 cat, .slice cq lf.length cc]] w fun e w' => e = .returned (.bool true) ∧ Below w.heap.size w w' := by
  obtain ⟨w1, hw1⟩ : ∃ w1, w1 = w.alloc (.cells #[.int .i64 cat, .slice cq lf.length cc] 26) := ⟨_, rfl⟩
  have hb1 : Below w.heap.size w w1 := by rw [hw1]; exact (Below.refl _ _).alloc (Nat.le_refl _) _
  have hbox : w1.heap[w.heap.size]? = some (.cells #[.int .i64 cat, .slice cq lf.length cc] 26) := by rw [hw1]; exact heap_alloc_new w _
  have HM := Lib.hid h
  have HPL := Lib.hid hpl
  have HKP := Lib.hid (And.intro (hkl.below hb1) (show lf.length ≤ 4294967296 by omega))
  have HG := Lib.hid (hg.below hb1)
  have HB := Lib.hid hb1
  have HBX := Lib.hid (show ∀ W, Below w1.heap.size w1 W → W.cell? ⟨w.heap.size, 0, none⟩ = some (.int .i64 cat) ∧ W.cell? ⟨w.heap.size, 1, none⟩ = some (.slice cq lf.length cc) from fun W hW => by
    have := (hW.block w.heap.size (Array.getElem?_eq_some_iff.1 hbox).1).trans hbox
    exact ⟨by simp [World.cell?, this], by simp [World.cell?, this]⟩)
  have x0 : (0 : Int) ≤ (n : Int) := by omega
  have x1 : (n : Int) ≤ 80 := by omega
  have x2 : (ls.length : Int) ≤ 15 := by omega
  have x3 : (lf.length : Int) ≤ 50 := by omega
  have HNW := Lib.hid (new_st n (by omega) (n : Int) rfl w1)
  obtain ⟨hc0, hc1⟩ := HBX.out w1 (Below.refl _ _)
  rw [hw1] at HNW hc0 hc1
  have HW1 := Lib.hid hw1
  obtain ⟨J, hJ⟩ : ∃ J, jFrom (Dk.new n) = J := ⟨_, rfl⟩
  have HJ := Lib.hid hJ
  have HN80 := Lib.hid (show n ≤ 4000 by omega)
  clear h hpl hkl hg h80 h15 h50 hb1 hbox hw1 hJ
  go_enter Tryz.func3, Tryz.ntmps3
  go_wp2_with fail
  refine HNW.out.mono ?_
  rw [← HW1.out]
  rintro e w2 ⟨g, rfl, h2⟩
  have H2 := Lib.hid h2
  clear h2 hc0 hc1
  go_wp2_with fail
  refine (rnew_x n HN80.out H2.out).mono ?_
  rintro e w3 ⟨gr, rfl, h3⟩
  have H3 := Lib.hid h3
  clear h3
  go_wp2_with fail
  refine (rfrom_x H3.out HJ.out).mono ?_
  rintro e w4 ⟨rfl, rfl⟩
  go_wp2_with fail
  go_loopw [13, 14] (fun nx i wr => RelM ls w1 (.pointer (some ⟨g, 0, none⟩)) (.pointer (some ⟨gr, 0, none⟩)) nx i wr) (fun _ i _ => ls.length - (intOf i).toNat)
  case atStart => exact ⟨0, J, Dk.new n, by omega, rfl, rfl, rfl, rfl, H3.out⟩
  case round =>
    obtain ⟨k, z, d, hk, rfl, rfl, hn0, hp0, hst⟩ := hrel
    have HBW := Lib.hid (HB.out.trans (hst.old.mono HB.out.size))
    by_cases hlt : k < ls.length
    · obtain ⟨b, o, hp, c0, c1, c2, c3, c4⟩ := HM.out.1 k hlt
      have hmb := HM.out.2 ls[k] (List.getElem_mem hlt)
      subst hp
      obtain ⟨y, hy⟩ : ∃ y, y = ls[k] := ⟨_, rfl⟩
      rw [← hy] at c0 c1 c2 c3 c4 hmb
      obtain ⟨gen, nn, done, st, out⟩ := y
      simp only at c0 c1 c2 c3 c4 hmb
      have HCX := Lib.hid (show ∀ W, Below w1.heap.size w1 W → W.cell? ⟨b, o + k * 5, none⟩ = some (.int .i64 gen) ∧ W.cell? ⟨b, o + k * 5 + 1, none⟩ = some (.int .i64 nn) ∧ W.cell? ⟨b, o + k * 5 + 2, none⟩ = some (.bool done) ∧ W.cell? ⟨b, o + k * 5 + 3, none⟩ = some (.int .i64 st) ∧ W.cell? ⟨b, o + k * 5 + 4, none⟩ = some (.string out) from fun W hW1 => by
        have hW := HB.out.trans (hW1.mono HB.out.size)
        exact ⟨(hW.cell (p := ⟨b, _, none⟩) (lt_of_cell c0)).trans c0, (hW.cell (p := ⟨b, _, none⟩) (lt_of_cell c1)).trans c1, (hW.cell (p := ⟨b, _, none⟩) (lt_of_cell c2)).trans c2, (hW.cell (p := ⟨b, _, none⟩) (lt_of_cell c3)).trans c3, (hW.cell (p := ⟨b, _, none⟩) (lt_of_cell c4)).trans c4⟩)
      clear c0 c1 c2 c3 c4
      obtain ⟨c0, c1, c2, c3, c4⟩ := HCX.out wr hst.old
      have hkb : (k : Int) < 15 := by omega
      have hkl' : (k : Int) < (ls.length : Int) := by omega
      have HST := Lib.hid hst
      have HL := Lib.hid (And.intro hlt (And.intro hn0 (And.intro hp0 hmb.2.2.1)))
      clear hst hlt hk hn0 hp0 hmb hy
      by_cases hlong : (100 : Int) < (out.size : Int)
      · go_wp2_with fail
        go_ret
        exact ⟨rfl, HBW.out⟩
      · have hs100 : (out.size : Int) ≤ 100 := by omega
        have HO := Lib.hid (show out.size ≤ 900000 by omega)
        clear hlong
        by_cases hat : (k : Int) = at_
        · have hba : ((k : Int) == at_) = true := by simpa using hat
          clear hat
          obtain ⟨b0, b1⟩ := HBX.out wr HST.out.old
          obtain ⟨dA, hdA⟩ : ∃ dA, dA = d.arm cat lf := ⟨_, rfl⟩
          have HDA := Lib.hid (show dA.n = 0 ∧ dA.p = [] from by rw [hdA]; exact ⟨HL.out.2.1, HL.out.2.2.1⟩)
          have HDE := Lib.hid hdA
          clear hdA
          go_wp2_with fail
          refine (arm_x HST.out cat (HKP.out.1.below HST.out.old) HKP.out.2).mono ?_
          rintro e wa ⟨rfl, ha⟩
          have HA1 := Lib.hid ha
          clear ha b0 b1
          obtain ⟨b0, b1⟩ := HBX.out wa HA1.out.old
          go_wp2_with fail
          refine (rarm_x HA1.out cat HKP.out.1).mono ?_
          rintro e wx ⟨rfl, hx⟩
          rw [← HDE.out] at hx
          have HX := Lib.hid hx
          clear hx b0 b1 c0 c1 c2 c3 c4
          obtain ⟨c0, c1, c2, c3, c4⟩ := HCX.out wx HX.out.old
          by_cases hkp : k < pl.length
          · obtain ⟨b2, o2, hp2, v0, -⟩ := HPL.out k hkp
            subst hp2
            obtain ⟨v, hv⟩ : ∃ v, v = pl[k] := ⟨_, rfl⟩
            rw [← hv] at v0
            have hkp1 : (k : Int) < (pl.length : Int) := by omega
            have v1 : wx.cell? ⟨b2, o2 + k, none⟩ = some (.int .i64 v) := ((HB.out.trans (HX.out.old.mono HB.out.size)).cell (p := ⟨b2, _, none⟩) (lt_of_cell v0)).trans v0
            clear hkp hv v0
            by_cases hv0 : v = 0
            · subst hv0
              obtain ⟨nx, e0, d1, happ⟩ : ∃ nx e0 d1, markAppend dA z ⟨gen, nn, done, st, out⟩ = (nx, e0, d1) := ⟨_, _, _, rfl⟩
              have HAP := Lib.hid happ
              have hbn : (nx != nx) = false := by simp
              have hbe0 : (e0 != e0) = false := by simp
              clear happ
              go_wp2_with fail
              refine (append_x HX.out HG.out z gen nn done st out HL.out.2.2.2 HO.out HAP.out HDA.out.1 HDA.out.2).mono ?_
              rintro e w5 ⟨rfl, h5⟩
              have H5 := Lib.hid h5
              clear h5 c0 c1 c2 c3 c4 v1
              obtain ⟨c0, c1, c2, c3, c4⟩ := HCX.out w5 H5.out.old
              go_wp2_with fail
              refine (rappend_x H5.out z gen nn done st out HL.out.2.2.2 HO.out HAP.out HDA.out.1 HDA.out.2).mono ?_
              rintro e w6 ⟨rfl, h6⟩
              have H6 := Lib.hid h6
              clear h6 c0 c1 c2 c3 c4
              obtain ⟨L, zz, hL⟩ : ∃ L zz, markScan d1.restart gen = (L, zz) := ⟨_, _, rfl⟩
              obtain ⟨Z, hZ⟩ : ∃ Z : Int, (zz : Int) = Z := ⟨_, rfl⟩
              have HLZ := Lib.hid (And.intro hL hZ)
              have hbz : (Z != Z) = false := by simp
              clear hL hZ
              by_cases he0 : e0 = 0
              · subst he0
                clear hbe0
                go_wp2_with fail
                refine (restart_x H6.out).mono ?_
                rintro e w7 ⟨rfl, h7⟩
                have H7 := Lib.hid h7
                clear h7
                go_wp2_with fail
                refine (rrestart_x H7.out).mono ?_
                rintro e w8 ⟨rfl, h8⟩
                have H8 := Lib.hid h8
                clear h8
                have c0 := (HCX.out w8 H8.out.old).1
                go_wp2_with fail
                refine (scan_x H8.out HG.out gen HLZ.out.1 HLZ.out.2).mono ?_
                rintro e w9 ⟨a9, c9, rfl, hm9, hl9, h9, -⟩
                have H9 := Lib.hid (And.intro hm9 (And.intro hl9 h9))
                clear hm9 hl9 h9 c0
                have c0 := (HCX.out w9 H9.out.2.2.old).1
                go_wp2_with fail
                refine (rscan_x H9.out.2.2 gen HLZ.out.1 HLZ.out.2).mono ?_
                rintro e w10 ⟨a10, c10, rfl, hm10, h10, hb10⟩
                have H10 := Lib.hid (And.intro (H9.out.1.below hb10) (And.intro hm10 h10))
                clear hm10 h10 hb10 c0
                go_wp2_with fail
                refine (same_yes a9 a10 c9 c10 L w10 H10.out.1 H10.out.2.1 H9.out.2.1).mono ?_
                rintro e w11 ⟨rfl, hb11⟩
                have H11 := Lib.hid (H10.out.2.2.below hb11)
                clear hb11
                go_wp2_with fail
                exact ⟨⟨k + 1, nx, d1.restart, by have := HL.out.1; omega, by go_num, rfl, rfl, rfl, H11.out⟩, by have := HL.out.1; simp [intOf]; omega⟩
              · have hbe1 : (e0 == 0) = false := by simpa using he0
                clear he0
                go_wp2_with fail
                refine (restart_x H6.out).mono ?_
                rintro e w7 ⟨rfl, h7⟩
                have H7 := Lib.hid h7
                clear h7
                go_wp2_with fail
                refine (rrestart_x H7.out).mono ?_
                rintro e w8 ⟨rfl, h8⟩
                have H8 := Lib.hid h8
                clear h8
                have c0 := (HCX.out w8 H8.out.old).1
                go_wp2_with fail
                refine (scan_x H8.out HG.out gen HLZ.out.1 HLZ.out.2).mono ?_
                rintro e w9 ⟨a9, c9, rfl, hm9, hl9, h9, -⟩
                have H9 := Lib.hid (And.intro hm9 (And.intro hl9 h9))
                clear hm9 hl9 h9 c0
                have c0 := (HCX.out w9 H9.out.2.2.old).1
                go_wp2_with fail
                refine (rscan_x H9.out.2.2 gen HLZ.out.1 HLZ.out.2).mono ?_
                rintro e w10 ⟨a10, c10, rfl, hm10, h10, hb10⟩
                have H10 := Lib.hid (And.intro (H9.out.1.below hb10) (And.intro hm10 h10))
                clear hm10 h10 hb10 c0
                go_wp2_with fail
                refine (same_yes a9 a10 c9 c10 L w10 H10.out.1 H10.out.2.1 H9.out.2.1).mono ?_
                rintro e w11 ⟨rfl, hb11⟩
                have H11 := Lib.hid (H10.out.2.2.below hb11)
                clear hb11
                go_wp2_with fail
                exact ⟨⟨k + 1, z, d1.restart, by have := HL.out.1; omega, by go_num, rfl, rfl, rfl, H11.out⟩, by have := HL.out.1; simp [intOf]; omega⟩
            · have hbv : (v != 0) = true := by simpa using hv0
              clear hv0
              obtain ⟨nx, e0, d1, happ⟩ : ∃ nx e0 d1, markAppend dA v ⟨gen, nn, done, st, out⟩ = (nx, e0, d1) := ⟨_, _, _, rfl⟩
              have HAP := Lib.hid happ
              have hbn : (nx != nx) = false := by simp
              have hbe0 : (e0 != e0) = false := by simp
              clear happ
              go_wp2_with fail
              refine (append_x HX.out HG.out v gen nn done st out HL.out.2.2.2 HO.out HAP.out HDA.out.1 HDA.out.2).mono ?_
              rintro e w5 ⟨rfl, h5⟩
              have H5 := Lib.hid h5
              clear h5 c0 c1 c2 c3 c4 v1
              obtain ⟨c0, c1, c2, c3, c4⟩ := HCX.out w5 H5.out.old
              go_wp2_with fail
              refine (rappend_x H5.out v gen nn done st out HL.out.2.2.2 HO.out HAP.out HDA.out.1 HDA.out.2).mono ?_
              rintro e w6 ⟨rfl, h6⟩
              have H6 := Lib.hid h6
              clear h6 c0 c1 c2 c3 c4
              obtain ⟨L, zz, hL⟩ : ∃ L zz, markScan d1.restart gen = (L, zz) := ⟨_, _, rfl⟩
              obtain ⟨Z, hZ⟩ : ∃ Z : Int, (zz : Int) = Z := ⟨_, rfl⟩
              have HLZ := Lib.hid (And.intro hL hZ)
              have hbz : (Z != Z) = false := by simp
              clear hL hZ
              by_cases he0 : e0 = 0
              · subst he0
                clear hbe0
                go_wp2_with fail
                refine (restart_x H6.out).mono ?_
                rintro e w7 ⟨rfl, h7⟩
                have H7 := Lib.hid h7
                clear h7
                go_wp2_with fail
                refine (rrestart_x H7.out).mono ?_
                rintro e w8 ⟨rfl, h8⟩
                have H8 := Lib.hid h8
                clear h8
                have c0 := (HCX.out w8 H8.out.old).1
                go_wp2_with fail
                refine (scan_x H8.out HG.out gen HLZ.out.1 HLZ.out.2).mono ?_
                rintro e w9 ⟨a9, c9, rfl, hm9, hl9, h9, -⟩
                have H9 := Lib.hid (And.intro hm9 (And.intro hl9 h9))
                clear hm9 hl9 h9 c0
                have c0 := (HCX.out w9 H9.out.2.2.old).1
                go_wp2_with fail
                refine (rscan_x H9.out.2.2 gen HLZ.out.1 HLZ.out.2).mono ?_
                rintro e w10 ⟨a10, c10, rfl, hm10, h10, hb10⟩
                have H10 := Lib.hid (And.intro (H9.out.1.below hb10) (And.intro hm10 h10))
                clear hm10 h10 hb10 c0
                go_wp2_with fail
                refine (same_yes a9 a10 c9 c10 L w10 H10.out.1 H10.out.2.1 H9.out.2.1).mono ?_
                rintro e w11 ⟨rfl, hb11⟩
                have H11 := Lib.hid (H10.out.2.2.below hb11)
                clear hb11
                go_wp2_with fail
                exact ⟨⟨k + 1, nx, d1.restart, by have := HL.out.1; omega, by go_num, rfl, rfl, rfl, H11.out⟩, by have := HL.out.1; simp [intOf]; omega⟩
              · have hbe1 : (e0 == 0) = false := by simpa using he0
                clear he0
                go_wp2_with fail
                refine (restart_x H6.out).mono ?_
                rintro e w7 ⟨rfl, h7⟩
                have H7 := Lib.hid h7
                clear h7
                go_wp2_with fail
                refine (rrestart_x H7.out).mono ?_
                rintro e w8 ⟨rfl, h8⟩
                have H8 := Lib.hid h8
                clear h8
                have c0 := (HCX.out w8 H8.out.old).1
                go_wp2_with fail
                refine (scan_x H8.out HG.out gen HLZ.out.1 HLZ.out.2).mono ?_
                rintro e w9 ⟨a9, c9, rfl, hm9, hl9, h9, -⟩
                have H9 := Lib.hid (And.intro hm9 (And.intro hl9 h9))
                clear hm9 hl9 h9 c0
                have c0 := (HCX.out w9 H9.out.2.2.old).1
                go_wp2_with fail
                refine (rscan_x H9.out.2.2 gen HLZ.out.1 HLZ.out.2).mono ?_
                rintro e w10 ⟨a10, c10, rfl, hm10, h10, hb10⟩
                have H10 := Lib.hid (And.intro (H9.out.1.below hb10) (And.intro hm10 h10))
                clear hm10 h10 hb10 c0
                go_wp2_with fail
                refine (same_yes a9 a10 c9 c10 L w10 H10.out.1 H10.out.2.1 H9.out.2.1).mono ?_
                rintro e w11 ⟨rfl, hb11⟩
                have H11 := Lib.hid (H10.out.2.2.below hb11)
                clear hb11
                go_wp2_with fail
                exact ⟨⟨k + 1, z, d1.restart, by have := HL.out.1; omega, by go_num, rfl, rfl, rfl, H11.out⟩, by have := HL.out.1; simp [intOf]; omega⟩
          · have hkp1 : (pl.length : Int) ≤ (k : Int) := by omega
            clear hkp
            obtain ⟨nx, e0, d1, happ⟩ : ∃ nx e0 d1, markAppend dA z ⟨gen, nn, done, st, out⟩ = (nx, e0, d1) := ⟨_, _, _, rfl⟩
            have HAP := Lib.hid happ
            have hbn : (nx != nx) = false := by simp
            have hbe0 : (e0 != e0) = false := by simp
            clear happ
            go_wp2_with fail
            refine (append_x HX.out HG.out z gen nn done st out HL.out.2.2.2 HO.out HAP.out HDA.out.1 HDA.out.2).mono ?_
            rintro e w5 ⟨rfl, h5⟩
            have H5 := Lib.hid h5
            clear h5 c0 c1 c2 c3 c4
            obtain ⟨c0, c1, c2, c3, c4⟩ := HCX.out w5 H5.out.old
            go_wp2_with fail
            refine (rappend_x H5.out z gen nn done st out HL.out.2.2.2 HO.out HAP.out HDA.out.1 HDA.out.2).mono ?_
            rintro e w6 ⟨rfl, h6⟩
            have H6 := Lib.hid h6
            clear h6 c0 c1 c2 c3 c4
            obtain ⟨L, zz, hL⟩ : ∃ L zz, markScan d1.restart gen = (L, zz) := ⟨_, _, rfl⟩
            obtain ⟨Z, hZ⟩ : ∃ Z : Int, (zz : Int) = Z := ⟨_, rfl⟩
            have HLZ := Lib.hid (And.intro hL hZ)
            have hbz : (Z != Z) = false := by simp
            clear hL hZ
            by_cases he0 : e0 = 0
            · subst he0
              clear hbe0
              go_wp2_with fail
              refine (restart_x H6.out).mono ?_
              rintro e w7 ⟨rfl, h7⟩
              have H7 := Lib.hid h7
              clear h7
              go_wp2_with fail
              refine (rrestart_x H7.out).mono ?_
              rintro e w8 ⟨rfl, h8⟩
              have H8 := Lib.hid h8
              clear h8
              have c0 := (HCX.out w8 H8.out.old).1
              go_wp2_with fail
              refine (scan_x H8.out HG.out gen HLZ.out.1 HLZ.out.2).mono ?_
              rintro e w9 ⟨a9, c9, rfl, hm9, hl9, h9, -⟩
              have H9 := Lib.hid (And.intro hm9 (And.intro hl9 h9))
              clear hm9 hl9 h9 c0
              have c0 := (HCX.out w9 H9.out.2.2.old).1
              go_wp2_with fail
              refine (rscan_x H9.out.2.2 gen HLZ.out.1 HLZ.out.2).mono ?_
              rintro e w10 ⟨a10, c10, rfl, hm10, h10, hb10⟩
              have H10 := Lib.hid (And.intro (H9.out.1.below hb10) (And.intro hm10 h10))
              clear hm10 h10 hb10 c0
              go_wp2_with fail
              refine (same_yes a9 a10 c9 c10 L w10 H10.out.1 H10.out.2.1 H9.out.2.1).mono ?_
              rintro e w11 ⟨rfl, hb11⟩
              have H11 := Lib.hid (H10.out.2.2.below hb11)
              clear hb11
              go_wp2_with fail
              exact ⟨⟨k + 1, nx, d1.restart, by have := HL.out.1; omega, by go_num, rfl, rfl, rfl, H11.out⟩, by have := HL.out.1; simp [intOf]; omega⟩
            · have hbe1 : (e0 == 0) = false := by simpa using he0
              clear he0
              go_wp2_with fail
              refine (restart_x H6.out).mono ?_
              rintro e w7 ⟨rfl, h7⟩
              have H7 := Lib.hid h7
              clear h7
              go_wp2_with fail
              refine (rrestart_x H7.out).mono ?_
              rintro e w8 ⟨rfl, h8⟩
              have H8 := Lib.hid h8
              clear h8
              have c0 := (HCX.out w8 H8.out.old).1
              go_wp2_with fail
              refine (scan_x H8.out HG.out gen HLZ.out.1 HLZ.out.2).mono ?_
              rintro e w9 ⟨a9, c9, rfl, hm9, hl9, h9, -⟩
              have H9 := Lib.hid (And.intro hm9 (And.intro hl9 h9))
              clear hm9 hl9 h9 c0
              have c0 := (HCX.out w9 H9.out.2.2.old).1
              go_wp2_with fail
              refine (rscan_x H9.out.2.2 gen HLZ.out.1 HLZ.out.2).mono ?_
              rintro e w10 ⟨a10, c10, rfl, hm10, h10, hb10⟩
              have H10 := Lib.hid (And.intro (H9.out.1.below hb10) (And.intro hm10 h10))
              clear hm10 h10 hb10 c0
              go_wp2_with fail
              refine (same_yes a9 a10 c9 c10 L w10 H10.out.1 H10.out.2.1 H9.out.2.1).mono ?_
              rintro e w11 ⟨rfl, hb11⟩
              have H11 := Lib.hid (H10.out.2.2.below hb11)
              clear hb11
              go_wp2_with fail
              exact ⟨⟨k + 1, z, d1.restart, by have := HL.out.1; omega, by go_num, rfl, rfl, rfl, H11.out⟩, by have := HL.out.1; simp [intOf]; omega⟩
        · have hba : ((k : Int) == at_) = false := by simpa using hat
          clear hat
          obtain ⟨dA, hdA⟩ : ∃ dA, dA = d := ⟨_, rfl⟩
          have HDA := Lib.hid (show dA.n = 0 ∧ dA.p = [] from by rw [hdA]; exact ⟨HL.out.2.1, HL.out.2.2.1⟩)
          have HX := HST
          rw [← hdA] at HX
          clear hdA
          by_cases hkp : k < pl.length
          · obtain ⟨b2, o2, hp2, v0, -⟩ := HPL.out k hkp
            subst hp2
            obtain ⟨v, hv⟩ : ∃ v, v = pl[k] := ⟨_, rfl⟩
            rw [← hv] at v0
            have hkp1 : (k : Int) < (pl.length : Int) := by omega
            have v1 : wr.cell? ⟨b2, o2 + k, none⟩ = some (.int .i64 v) := ((HB.out.trans (HX.out.old.mono HB.out.size)).cell (p := ⟨b2, _, none⟩) (lt_of_cell v0)).trans v0
            clear hkp hv v0
            by_cases hv0 : v = 0
            · subst hv0
              obtain ⟨nx, e0, d1, happ⟩ : ∃ nx e0 d1, markAppend dA z ⟨gen, nn, done, st, out⟩ = (nx, e0, d1) := ⟨_, _, _, rfl⟩
              have HAP := Lib.hid happ
              have hbn : (nx != nx) = false := by simp
              have hbe0 : (e0 != e0) = false := by simp
              clear happ
              go_wp2_with fail
              refine (append_x HX.out HG.out z gen nn done st out HL.out.2.2.2 HO.out HAP.out HDA.out.1 HDA.out.2).mono ?_
              rintro e w5 ⟨rfl, h5⟩
              have H5 := Lib.hid h5
              clear h5 c0 c1 c2 c3 c4 v1
              obtain ⟨c0, c1, c2, c3, c4⟩ := HCX.out w5 H5.out.old
              go_wp2_with fail
              refine (rappend_x H5.out z gen nn done st out HL.out.2.2.2 HO.out HAP.out HDA.out.1 HDA.out.2).mono ?_
              rintro e w6 ⟨rfl, h6⟩
              have H6 := Lib.hid h6
              clear h6 c0 c1 c2 c3 c4
              obtain ⟨L, zz, hL⟩ : ∃ L zz, markScan d1.restart gen = (L, zz) := ⟨_, _, rfl⟩
              obtain ⟨Z, hZ⟩ : ∃ Z : Int, (zz : Int) = Z := ⟨_, rfl⟩
              have HLZ := Lib.hid (And.intro hL hZ)
              have hbz : (Z != Z) = false := by simp
              clear hL hZ
              by_cases he0 : e0 = 0
              · subst he0
                clear hbe0
                go_wp2_with fail
                refine (restart_x H6.out).mono ?_
                rintro e w7 ⟨rfl, h7⟩
                have H7 := Lib.hid h7
                clear h7
                go_wp2_with fail
                refine (rrestart_x H7.out).mono ?_
                rintro e w8 ⟨rfl, h8⟩
                have H8 := Lib.hid h8
                clear h8
                have c0 := (HCX.out w8 H8.out.old).1
                go_wp2_with fail
                refine (scan_x H8.out HG.out gen HLZ.out.1 HLZ.out.2).mono ?_
                rintro e w9 ⟨a9, c9, rfl, hm9, hl9, h9, -⟩
                have H9 := Lib.hid (And.intro hm9 (And.intro hl9 h9))
                clear hm9 hl9 h9 c0
                have c0 := (HCX.out w9 H9.out.2.2.old).1
                go_wp2_with fail
                refine (rscan_x H9.out.2.2 gen HLZ.out.1 HLZ.out.2).mono ?_
                rintro e w10 ⟨a10, c10, rfl, hm10, h10, hb10⟩
                have H10 := Lib.hid (And.intro (H9.out.1.below hb10) (And.intro hm10 h10))
                clear hm10 h10 hb10 c0
                go_wp2_with fail
                refine (same_yes a9 a10 c9 c10 L w10 H10.out.1 H10.out.2.1 H9.out.2.1).mono ?_
                rintro e w11 ⟨rfl, hb11⟩
                have H11 := Lib.hid (H10.out.2.2.below hb11)
                clear hb11
                go_wp2_with fail
                exact ⟨⟨k + 1, nx, d1.restart, by have := HL.out.1; omega, by go_num, rfl, rfl, rfl, H11.out⟩, by have := HL.out.1; simp [intOf]; omega⟩
              · have hbe1 : (e0 == 0) = false := by simpa using he0
                clear he0
                go_wp2_with fail
                refine (restart_x H6.out).mono ?_
                rintro e w7 ⟨rfl, h7⟩
                have H7 := Lib.hid h7
                clear h7
                go_wp2_with fail
                refine (rrestart_x H7.out).mono ?_
                rintro e w8 ⟨rfl, h8⟩
                have H8 := Lib.hid h8
                clear h8
                have c0 := (HCX.out w8 H8.out.old).1
                go_wp2_with fail
                refine (scan_x H8.out HG.out gen HLZ.out.1 HLZ.out.2).mono ?_
                rintro e w9 ⟨a9, c9, rfl, hm9, hl9, h9, -⟩
                have H9 := Lib.hid (And.intro hm9 (And.intro hl9 h9))
                clear hm9 hl9 h9 c0
                have c0 := (HCX.out w9 H9.out.2.2.old).1
                go_wp2_with fail
                refine (rscan_x H9.out.2.2 gen HLZ.out.1 HLZ.out.2).mono ?_
                rintro e w10 ⟨a10, c10, rfl, hm10, h10, hb10⟩
                have H10 := Lib.hid (And.intro (H9.out.1.below hb10) (And.intro hm10 h10))
                clear hm10 h10 hb10 c0
                go_wp2_with fail
                refine (same_yes a9 a10 c9 c10 L w10 H10.out.1 H10.out.2.1 H9.out.2.1).mono ?_
                rintro e w11 ⟨rfl, hb11⟩
                have H11 := Lib.hid (H10.out.2.2.below hb11)
                clear hb11
                go_wp2_with fail
                exact ⟨⟨k + 1, z, d1.restart, by have := HL.out.1; omega, by go_num, rfl, rfl, rfl, H11.out⟩, by have := HL.out.1; simp [intOf]; omega⟩
            · have hbv : (v != 0) = true := by simpa using hv0
              clear hv0
              obtain ⟨nx, e0, d1, happ⟩ : ∃ nx e0 d1, markAppend dA v ⟨gen, nn, done, st, out⟩ = (nx, e0, d1) := ⟨_, _, _, rfl⟩
              have HAP := Lib.hid happ
              have hbn : (nx != nx) = false := by simp
              have hbe0 : (e0 != e0) = false := by simp
              clear happ
              go_wp2_with fail
              refine (append_x HX.out HG.out v gen nn done st out HL.out.2.2.2 HO.out HAP.out HDA.out.1 HDA.out.2).mono ?_
              rintro e w5 ⟨rfl, h5⟩
              have H5 := Lib.hid h5
              clear h5 c0 c1 c2 c3 c4 v1
              obtain ⟨c0, c1, c2, c3, c4⟩ := HCX.out w5 H5.out.old
              go_wp2_with fail
              refine (rappend_x H5.out v gen nn done st out HL.out.2.2.2 HO.out HAP.out HDA.out.1 HDA.out.2).mono ?_
              rintro e w6 ⟨rfl, h6⟩
              have H6 := Lib.hid h6
              clear h6 c0 c1 c2 c3 c4
              obtain ⟨L, zz, hL⟩ : ∃ L zz, markScan d1.restart gen = (L, zz) := ⟨_, _, rfl⟩
              obtain ⟨Z, hZ⟩ : ∃ Z : Int, (zz : Int) = Z := ⟨_, rfl⟩
              have HLZ := Lib.hid (And.intro hL hZ)
              have hbz : (Z != Z) = false := by simp
              clear hL hZ
              by_cases he0 : e0 = 0
              · subst he0
                clear hbe0
                go_wp2_with fail
                refine (restart_x H6.out).mono ?_
                rintro e w7 ⟨rfl, h7⟩
                have H7 := Lib.hid h7
                clear h7
                go_wp2_with fail
                refine (rrestart_x H7.out).mono ?_
                rintro e w8 ⟨rfl, h8⟩
                have H8 := Lib.hid h8
                clear h8
                have c0 := (HCX.out w8 H8.out.old).1
                go_wp2_with fail
                refine (scan_x H8.out HG.out gen HLZ.out.1 HLZ.out.2).mono ?_
                rintro e w9 ⟨a9, c9, rfl, hm9, hl9, h9, -⟩
                have H9 := Lib.hid (And.intro hm9 (And.intro hl9 h9))
                clear hm9 hl9 h9 c0
                have c0 := (HCX.out w9 H9.out.2.2.old).1
                go_wp2_with fail
                refine (rscan_x H9.out.2.2 gen HLZ.out.1 HLZ.out.2).mono ?_
                rintro e w10 ⟨a10, c10, rfl, hm10, h10, hb10⟩
                have H10 := Lib.hid (And.intro (H9.out.1.below hb10) (And.intro hm10 h10))
                clear hm10 h10 hb10 c0
                go_wp2_with fail
                refine (same_yes a9 a10 c9 c10 L w10 H10.out.1 H10.out.2.1 H9.out.2.1).mono ?_
                rintro e w11 ⟨rfl, hb11⟩
                have H11 := Lib.hid (H10.out.2.2.below hb11)
                clear hb11
                go_wp2_with fail
                exact ⟨⟨k + 1, nx, d1.restart, by have := HL.out.1; omega, by go_num, rfl, rfl, rfl, H11.out⟩, by have := HL.out.1; simp [intOf]; omega⟩
              · have hbe1 : (e0 == 0) = false := by simpa using he0
                clear he0
                go_wp2_with fail
                refine (restart_x H6.out).mono ?_
                rintro e w7 ⟨rfl, h7⟩
                have H7 := Lib.hid h7
                clear h7
                go_wp2_with fail
                refine (rrestart_x H7.out).mono ?_
                rintro e w8 ⟨rfl, h8⟩
                have H8 := Lib.hid h8
                clear h8
                have c0 := (HCX.out w8 H8.out.old).1
                go_wp2_with fail
                refine (scan_x H8.out HG.out gen HLZ.out.1 HLZ.out.2).mono ?_
                rintro e w9 ⟨a9, c9, rfl, hm9, hl9, h9, -⟩
                have H9 := Lib.hid (And.intro hm9 (And.intro hl9 h9))
                clear hm9 hl9 h9 c0
                have c0 := (HCX.out w9 H9.out.2.2.old).1
                go_wp2_with fail
                refine (rscan_x H9.out.2.2 gen HLZ.out.1 HLZ.out.2).mono ?_
                rintro e w10 ⟨a10, c10, rfl, hm10, h10, hb10⟩
                have H10 := Lib.hid (And.intro (H9.out.1.below hb10) (And.intro hm10 h10))
                clear hm10 h10 hb10 c0
                go_wp2_with fail
                refine (same_yes a9 a10 c9 c10 L w10 H10.out.1 H10.out.2.1 H9.out.2.1).mono ?_
                rintro e w11 ⟨rfl, hb11⟩
                have H11 := Lib.hid (H10.out.2.2.below hb11)
                clear hb11
                go_wp2_with fail
                exact ⟨⟨k + 1, z, d1.restart, by have := HL.out.1; omega, by go_num, rfl, rfl, rfl, H11.out⟩, by have := HL.out.1; simp [intOf]; omega⟩
          · have hkp1 : (pl.length : Int) ≤ (k : Int) := by omega
            clear hkp
            obtain ⟨nx, e0, d1, happ⟩ : ∃ nx e0 d1, markAppend dA z ⟨gen, nn, done, st, out⟩ = (nx, e0, d1) := ⟨_, _, _, rfl⟩
            have HAP := Lib.hid happ
            have hbn : (nx != nx) = false := by simp
            have hbe0 : (e0 != e0) = false := by simp
            clear happ
            go_wp2_with fail
            refine (append_x HX.out HG.out z gen nn done st out HL.out.2.2.2 HO.out HAP.out HDA.out.1 HDA.out.2).mono ?_
            rintro e w5 ⟨rfl, h5⟩
            have H5 := Lib.hid h5
            clear h5 c0 c1 c2 c3 c4
            obtain ⟨c0, c1, c2, c3, c4⟩ := HCX.out w5 H5.out.old
            go_wp2_with fail
            refine (rappend_x H5.out z gen nn done st out HL.out.2.2.2 HO.out HAP.out HDA.out.1 HDA.out.2).mono ?_
            rintro e w6 ⟨rfl, h6⟩
            have H6 := Lib.hid h6
            clear h6 c0 c1 c2 c3 c4
            obtain ⟨L, zz, hL⟩ : ∃ L zz, markScan d1.restart gen = (L, zz) := ⟨_, _, rfl⟩
            obtain ⟨Z, hZ⟩ : ∃ Z : Int, (zz : Int) = Z := ⟨_, rfl⟩
            have HLZ := Lib.hid (And.intro hL hZ)
            have hbz : (Z != Z) = false := by simp
            clear hL hZ
            by_cases he0 : e0 = 0
            · subst he0
              clear hbe0
              go_wp2_with fail
              refine (restart_x H6.out).mono ?_
              rintro e w7 ⟨rfl, h7⟩
              have H7 := Lib.hid h7
              clear h7
              go_wp2_with fail
              refine (rrestart_x H7.out).mono ?_
              rintro e w8 ⟨rfl, h8⟩
              have H8 := Lib.hid h8
              clear h8
              have c0 := (HCX.out w8 H8.out.old).1
              go_wp2_with fail
              refine (scan_x H8.out HG.out gen HLZ.out.1 HLZ.out.2).mono ?_
              rintro e w9 ⟨a9, c9, rfl, hm9, hl9, h9, -⟩
              have H9 := Lib.hid (And.intro hm9 (And.intro hl9 h9))
              clear hm9 hl9 h9 c0
              have c0 := (HCX.out w9 H9.out.2.2.old).1
              go_wp2_with fail
              refine (rscan_x H9.out.2.2 gen HLZ.out.1 HLZ.out.2).mono ?_
              rintro e w10 ⟨a10, c10, rfl, hm10, h10, hb10⟩
              have H10 := Lib.hid (And.intro (H9.out.1.below hb10) (And.intro hm10 h10))
              clear hm10 h10 hb10 c0
              go_wp2_with fail
              refine (same_yes a9 a10 c9 c10 L w10 H10.out.1 H10.out.2.1 H9.out.2.1).mono ?_
              rintro e w11 ⟨rfl, hb11⟩
              have H11 := Lib.hid (H10.out.2.2.below hb11)
              clear hb11
              go_wp2_with fail
              exact ⟨⟨k + 1, nx, d1.restart, by have := HL.out.1; omega, by go_num, rfl, rfl, rfl, H11.out⟩, by have := HL.out.1; simp [intOf]; omega⟩
            · have hbe1 : (e0 == 0) = false := by simpa using he0
              clear he0
              go_wp2_with fail
              refine (restart_x H6.out).mono ?_
              rintro e w7 ⟨rfl, h7⟩
              have H7 := Lib.hid h7
              clear h7
              go_wp2_with fail
              refine (rrestart_x H7.out).mono ?_
              rintro e w8 ⟨rfl, h8⟩
              have H8 := Lib.hid h8
              clear h8
              have c0 := (HCX.out w8 H8.out.old).1
              go_wp2_with fail
              refine (scan_x H8.out HG.out gen HLZ.out.1 HLZ.out.2).mono ?_
              rintro e w9 ⟨a9, c9, rfl, hm9, hl9, h9, -⟩
              have H9 := Lib.hid (And.intro hm9 (And.intro hl9 h9))
              clear hm9 hl9 h9 c0
              have c0 := (HCX.out w9 H9.out.2.2.old).1
              go_wp2_with fail
              refine (rscan_x H9.out.2.2 gen HLZ.out.1 HLZ.out.2).mono ?_
              rintro e w10 ⟨a10, c10, rfl, hm10, h10, hb10⟩
              have H10 := Lib.hid (And.intro (H9.out.1.below hb10) (And.intro hm10 h10))
              clear hm10 h10 hb10 c0
              go_wp2_with fail
              refine (same_yes a9 a10 c9 c10 L w10 H10.out.1 H10.out.2.1 H9.out.2.1).mono ?_
              rintro e w11 ⟨rfl, hb11⟩
              have H11 := Lib.hid (H10.out.2.2.below hb11)
              clear hb11
              go_wp2_with fail
              exact ⟨⟨k + 1, z, d1.restart, by have := HL.out.1; omega, by go_num, rfl, rfl, rfl, H11.out⟩, by have := HL.out.1; simp [intOf]; omega⟩
    · obtain rfl : k = ls.length := by omega
      have HO := Lib.hid hst.old
      clear hst hlt hk hn0 hp0
      go_wp2_with fail
      refine (known_any _ (HG.out.below HO.out)).mono ?_
      rintro e w5 ⟨rfl, hb⟩
      have HE := Lib.hid (HBW.out.trans (hb.mono HBW.out.size))
      clear hb
      go_wp2_with fail
      go_ret
      exact ⟨rfl, HE.out⟩

set_option maxHeartbeats 4000000 in
set_option maxRecDepth 100000 in
theorem mplays_out (n : Int) (p : Option Addr) (m c : Nat) (pp : Option Addr) (pm pc : Nat) (at_ cat : Int) (cq : Option Addr) (lm cc : Nat) (w : World) (h : n < 0 ∨ 80 < n ∨ 15 < m ∨ 50 < lm) :
    Calls Tryz.prog 3 #[.int .i64 n, .slice p m c, .slice pp pm pc, .int .i64 at_, .agg #[.int .i64 cat, .slice cq lm cc]] w fun e w' => e = .returned (.bool true) ∧ Below w.heap.size w w' := by
  have main : (n < 0) ∨ (0 ≤ n ∧ 80 < n) ∨ (0 ≤ n ∧ n ≤ 80 ∧ (15 : Int) < (m : Int)) ∨ (0 ≤ n ∧ n ≤ 80 ∧ (m : Int) ≤ 15 ∧ (50 : Int) < (lm : Int)) := by omega
  have HB := Lib.hid (show Below w.heap.size w (w.alloc (.cells #[.int .i64 cat, .slice cq lm cc] 26)) from (Below.refl _ _).alloc (Nat.le_refl _) _)
  clear h
  rcases main with g1 | ⟨g1, g2⟩ | ⟨g1, g2, g3⟩ | ⟨g1, g2, g3, g4⟩
  all_goals
    go_enter Tryz.func3, Tryz.ntmps3
    go_wp2_with fail
    go_ret
    exact ⟨rfl, HB.out⟩

/-- THE LAW's WALK. -/
theorem mplays_law (n : Int) (p : Option Addr) (c : Nat) (ls : List Mk) (pp : Option Addr) (pc : Nat) (pl : List Int) (at_ cat : Int) (cq : Option Addr) (cc : Nat) (lf : List Int) (w : World)
    (h : MksIn w p ls) (hpl : IntsAt w pp pl) (hkl : KeepsAt w (.slice cq lf.length cc) lf) (hg : NetP.Glob w) :
    Calls Tryz.prog 3 #[.int .i64 n, .slice p ls.length c, .slice pp pl.length pc, .int .i64 at_, .agg #[.int .i64 cat, .slice cq lf.length cc]] w fun e w' => e = .returned (.bool true) ∧ Below w.heap.size w w' := by
  by_cases h1 : n < 0 ∨ 80 < n ∨ 15 < ls.length ∨ 50 < lf.length
  · exact mplays_out n p ls.length c pp pl.length pc at_ cat cq lf.length cc w h1
  · obtain ⟨m, rfl⟩ := Int.eq_ofNat_of_zero_le (show 0 ≤ n by omega)
    exact mplays_in m p c ls pp pc pl at_ cat cq cc lf w h hpl hkl hg (by omega) (by omega) (by omega)
end Go.Proofs.YtilplpjdbkipoaaGreatDoor
