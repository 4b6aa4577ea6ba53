/-
  Proved: the walk of the law SlotLast: if generations rise by one, whatever crashes, what is loaded is the last one that was well, or the one after it; so it answers true and changes nothing that was there. Conditions: the acts can be read.
-/
import Derived.Test.YtffjdpkgcgdfdaaSlotVar
import Derived.Test.YtffjdpkgcgdfdaaSlotFrame
namespace Go.Proofs.Ytffjdpkgcgdfdaa
open Go Go.RowKit DiskMath NetMem SpanMath SumMath

/-- The loop's words. -/
def RelS (ls : List ActV) (w : World) (p g s i : Value) (wr : World) : Prop :=
  ∃ (k gen : Nat) (last : List UInt8) (d : Dk), k ≤ ls.length ∧ gen ≤ k ∧ g = .int .i64 (gen : Int) ∧ s = .string ⟨last.toArray⟩ ∧ i = .int .i64 (k : Int) ∧ Inv d gen last ∧ StV w wr p d []

theorem cell_zero {W : World} {k : Nat} {v0 v1 v2 v3 v4 : Value} {t : TypeId} {fr : Nat × Nat} (h : W.heap[k]? = some (.cells #[v0, v1, v2, v3, v4] t fr)) : W.cell? ⟨k, 0, none⟩ = some v0 := by
  simp [World.cell?, h]

set_option maxHeartbeats 40000000 in
set_option maxRecDepth 100000 in
theorem last_in (p : Option Addr) (c : Nat) (ls : List ActV) (w : World) (h : ActsAt w p ls) (h20 : ls.length ≤ 20) :
    Calls Try.prog 4 #[.slice p ls.length c] w fun e w' => e = .returned (.bool true) ∧ Below w.heap.size w w' := by
  have HS := Lib.hid (And.intro h h20)
  have g20 : (ls.length : Int) ≤ 20 := by omega
  clear h h20
  go_enter Try.func4, Try.ntmps4
  go_wp2_with fail
  refine (new_st 100 (by omega) 100 rfl w).mono ?_
  rintro e w1 ⟨g, rfl, h1⟩
  have H1 := Lib.hid (StV.of_st h1)
  clear h1
  go_wp2_with fail
  go_loopw [4, 5, 6] (fun g' s i wr => RelS ls w (.pointer (some ⟨g, 0, none⟩)) g' s i wr) (fun _ _ i _ => ls.length - (intOf i).toNat)
  case atStart => exact ⟨0, 0, [], Dk.new 100, by omega, by omega, rfl, rfl, rfl, inv_new, H1.out⟩
  case round =>
    obtain ⟨k, gen, last, d, hk, hgk, rfl, rfl, rfl, hinv, hst⟩ := hrel
    by_cases hlt : k < ls.length
    · obtain ⟨b, o, hp, hc0, hr, hkl, hlm⟩ := HS.out.1 k hlt
      subst hp
      obtain ⟨y, hy⟩ : ∃ y, y = ls[k] := ⟨_, rfl⟩
      rw [← hy] at hc0 hr hkl hlm
      obtain ⟨q, yc, B, arm, at_, lq, lc, lf, yg⟩ := y
      simp only at hr hkl hlm
      have hcx : ∀ W, Below w.heap.size w W → ∀ (j : Nat) v, (ActV.mk q yc B arm at_ lq lc lf yg).cells[j]? = some v → W.cell? ⟨b, o + k * 5 + j, none⟩ = some v := fun W hb j v hv => (hb.cell (p := ⟨b, o + k * 5 + j, none⟩) (World.block_lt_of_cell? w _ (hc0 j v hv))).trans (hc0 j v hv)
      have c0 : wr.cell? ⟨b, o + k * 5, none⟩ = some (.slice q B.length yc) := hcx wr hst.old 0 _ rfl
      have c1 := hcx wr hst.old 1 _ rfl
      have c2 := hcx wr hst.old 2 _ rfl
      have c3 := hcx wr hst.old 3 _ rfl
      have c4 := hcx wr hst.old 4 _ rfl
      have HC := Lib.hid (And.intro hr (And.intro hkl (And.intro hinv hst)))
      have hkb : (k : Int) < 20 := by have := HS.out.2; omega
      have hkl' : (k : Int) < (ls.length : Int) := by omega
      clear hc0 hr hkl hlm hcx hinv hst hy
      by_cases hlen : 300 < B.length
      · have hlb : (300 : Int) < (B.length : Int) := by omega
        clear hlen
        have HV := Lib.hid (HC.out.2.2.2.var (.cells #[.slice q B.length yc, .bool arm, .int .i64 at_, .slice lq lf.length lc, .int .i64 yg] 32)).old
        go_wp2_with fail
        go_ret
        exact ⟨rfl, HV.out⟩
      · have hlb : (B.length : Int) ≤ 300 := by omega
        by_cases hlf : 50 < lf.length
        · have hlf' : (50 : Int) < (lf.length : Int) := by omega
          clear hlen hlf
          have HV := Lib.hid (HC.out.2.2.2.var (.cells #[.slice q B.length yc, .bool arm, .int .i64 at_, .slice lq lf.length lc, .int .i64 yg] 32)).old
          go_wp2_with fail
          go_ret
          exact ⟨rfl, HV.out⟩
        · have hlf' : (lf.length : Int) ≤ 50 := by omega
          have HV := Lib.hid (HC.out.2.2.2.var (.cells #[.slice q B.length yc, .bool arm, .int .i64 at_, .slice lq lf.length lc, .int .i64 yg] 32))
          have HL := Lib.hid (And.intro (show B.length ≤ 300 by omega) (And.intro (show lf.length ≤ 50 by omega) (And.intro hk hgk)))
          obtain ⟨sb, hsb⟩ : ∃ sb : ByteArray, (⟨B.toArray⟩ : ByteArray) = sb := ⟨_, rfl⟩
          obtain ⟨sl, hsl⟩ : ∃ sl : ByteArray, (⟨last.toArray⟩ : ByteArray) = sl := ⟨_, rfl⟩
          rw [hsl]
          have HSB := Lib.hid hsb
          have HSL := Lib.hid hsl
          have gb : (gen : Int) < 20 := by have := HS.out.2; omega
          have gx : gen < 255 := by have := HS.out.2; omega
          have n1 : (((gen : Int) + 1) == (gen : Int)) = false := by simp; omega
          have n2 : ((gen : Int) == ((gen : Int) + 1)) = false := by simp; omega
          obtain ⟨dA, hdA, hor⟩ : ∃ dA, (dA = if arm = true then d.arm at_ lf else d) ∧ (dA = d ∨ ∃ at_ l, dA = d.arm at_ l) := ⟨_, rfl, by
            by_cases h : arm = true
            · rw [if_pos h]; exact .inr ⟨_, _, rfl⟩
            · rw [if_neg h]; exact .inl rfl⟩
          obtain ⟨e0, d1, hsave, hout⟩ := inv_save HC.out.2.2.1 gx HL.out.1 hor
          have hn0 : dA.n = 0 ∧ dA.p = [] := by
            rcases hor with rfl | ⟨_, _, rfl⟩
            · exact ⟨HC.out.2.2.1.n, HC.out.2.2.1.p⟩
            · exact ⟨HC.out.2.2.1.n, HC.out.2.2.1.p⟩
          have HN := Lib.hid hn0
          have HSV := Lib.hid hsave
          clear hlen hlf hk hgk hsb hsl hor hn0 hsave
          rcases Nat.eq_zero_or_pos gen with gz | gz
          · subst gz
            cases arm with
            | true =>
              rcases hout with ⟨rfl, hinv2⟩ | ⟨rfl, hinv2 | hinv2⟩
              · have HI := Lib.hid hinv2
                have HLD := Lib.hid (show slotLoad d1.restart = some (0 + 1, B) from by have := inv_load HI.out (by omega); rwa [if_neg (by omega)] at this)
                clear hinv2 gx
                have HDA := Lib.hid (show d.arm at_ lf = dA from by rw [hdA, if_pos rfl])
                clear hdA
                go_wp2_with fail
                refine (arm_sv HV.out at_ (HC.out.2.1.below HV.out.old) (by have := HL.out.2.1; omega) HDA.out).mono ?_
                rintro e w2 ⟨rfl, h2⟩
                have H2 := Lib.hid h2
                have hcell := cell_zero (h2.cell List.mem_cons_self)
                clear h2
                go_wp2_with fail
                refine (save_sv H2.out (((0 : Nat) : Int) + 1) HC.out.1 HSV.out (by have := HL.out.1; omega) (by have := HL.out.1; rw [HN.out.1]; omega) (by have := HL.out.1; rw [HN.out.2]; simp; omega)).mono ?_
                rintro e w3 ⟨rfl, h3⟩
                have H3 := Lib.hid h3
                clear h3
                go_wp2_with fail
                refine (restart_sv H3.out rfl).mono ?_
                rintro e w4 ⟨rfl, h4⟩
                have H4 := Lib.hid h4
                clear h4
                go_wp2_with fail
                refine (load_sv H4.out (z := ((0 : Nat) : Int) + 1) (ok := true) (B := B) HLD.out (by show ((0 + 1 : Nat) : Int) = _; omega) rfl rfl).mono ?_
                rintro e w5 ⟨a5, c5, rfl, h5, hr5, hb5⟩
                have hcell2 := cell_zero (h5.cell List.mem_cons_self)
                have hcv1 := conv_any hr5
                have hcv2 := conv_any (HC.out.1.below h5.old)
                rw [HSB.out] at hcv1 hcv2
                have H5 := Lib.hid h5
                have HW := Lib.hid (show (convert 27 9 (.slice a5 B.length c5)).run Try.prog w5.drew = .ok (.string sb) w5.drew from by have := conv_any (hr5.below (below_drew _ _)); rwa [HSB.out] at this)
                clear h5 hr5 hb5
                go_wp2_with fail
                go_region_held (fun W => (convert 27 9 (.slice a5 B.length c5)).run Try.prog W = .ok (.string sb) W) (exact HW.out) (fail)
                go_wp2_with fail
                refine ⟨⟨k + 1, 0 + 1, B, d1.restart, by omega, by have := HL.out.2.2.2; omega, by go_num, by rw [HSB.out], by go_num, HI.out, ?_⟩, by simp [intOf]; omega⟩
                exact StV.of_st ((H5.out.below (below_drew _ _)).st)
              · have HI := Lib.hid hinv2
                have HLD := Lib.hid (show slotLoad d1.restart = none from by have := inv_load HI.out (by omega); rwa [if_pos rfl] at this)
                have hl0 : last = [] := by
                  rcases HI.out.cur with ⟨-, h, -⟩ | ⟨h, -⟩
                  · exact h
                  · omega
                subst hl0
                clear hinv2 gx
                have HDA := Lib.hid (show d.arm at_ lf = dA from by rw [hdA, if_pos rfl])
                clear hdA
                go_wp2_with fail
                refine (arm_sv HV.out at_ (HC.out.2.1.below HV.out.old) (by have := HL.out.2.1; omega) HDA.out).mono ?_
                rintro e w2 ⟨rfl, h2⟩
                have H2 := Lib.hid h2
                have hcell := cell_zero (h2.cell List.mem_cons_self)
                clear h2
                go_wp2_with fail
                refine (save_sv H2.out (((0 : Nat) : Int) + 1) HC.out.1 HSV.out (by have := HL.out.1; omega) (by have := HL.out.1; rw [HN.out.1]; omega) (by have := HL.out.1; rw [HN.out.2]; simp; omega)).mono ?_
                rintro e w3 ⟨rfl, h3⟩
                have H3 := Lib.hid h3
                clear h3
                go_wp2_with fail
                refine (restart_sv H3.out rfl).mono ?_
                rintro e w4 ⟨rfl, h4⟩
                have H4 := Lib.hid h4
                clear h4
                go_wp2_with fail
                refine (load_sv H4.out (z := 0) (ok := false) (B := []) HLD.out rfl rfl rfl).mono ?_
                rintro e w5 ⟨a5, c5, rfl, h5, hr5, hb5⟩
                have hcell2 := cell_zero (h5.cell List.mem_cons_self)
                have hcv1 : (convert 27 9 (.slice a5 0 c5)).run Try.prog w5 = .ok (.string sl) w5 := by have := conv_any hr5; rwa [HSL.out] at this
                have hcv2 := conv_any (HC.out.1.below h5.old)
                rw [HSB.out] at hcv2
                have H5 := Lib.hid h5
                clear h5 hr5 hb5
                go_wp2_with fail
                refine ⟨⟨k + 1, 0, [], d1.restart, by omega, by have := HL.out.2.2.2; omega, by go_num, by rw [HSL.out], by go_num, HI.out, ?_⟩, by simp [intOf]; omega⟩
                exact StV.of_st H5.out.st
              · have HI := Lib.hid hinv2
                have HLD := Lib.hid (show slotLoad d1.restart = some (0 + 1, B) from by have := inv_load HI.out (by omega); rwa [if_neg (by omega)] at this)
                clear hinv2 gx
                have HDA := Lib.hid (show d.arm at_ lf = dA from by rw [hdA, if_pos rfl])
                clear hdA
                go_wp2_with fail
                refine (arm_sv HV.out at_ (HC.out.2.1.below HV.out.old) (by have := HL.out.2.1; omega) HDA.out).mono ?_
                rintro e w2 ⟨rfl, h2⟩
                have H2 := Lib.hid h2
                have hcell := cell_zero (h2.cell List.mem_cons_self)
                clear h2
                go_wp2_with fail
                refine (save_sv H2.out (((0 : Nat) : Int) + 1) HC.out.1 HSV.out (by have := HL.out.1; omega) (by have := HL.out.1; rw [HN.out.1]; omega) (by have := HL.out.1; rw [HN.out.2]; simp; omega)).mono ?_
                rintro e w3 ⟨rfl, h3⟩
                have H3 := Lib.hid h3
                clear h3
                go_wp2_with fail
                refine (restart_sv H3.out rfl).mono ?_
                rintro e w4 ⟨rfl, h4⟩
                have H4 := Lib.hid h4
                clear h4
                go_wp2_with fail
                refine (load_sv H4.out (z := ((0 : Nat) : Int) + 1) (ok := true) (B := B) HLD.out (by show ((0 + 1 : Nat) : Int) = _; omega) rfl rfl).mono ?_
                rintro e w5 ⟨a5, c5, rfl, h5, hr5, hb5⟩
                have hcell2 := cell_zero (h5.cell List.mem_cons_self)
                have hcv1 := conv_any hr5
                have hcv2 := conv_any (HC.out.1.below h5.old)
                rw [HSB.out] at hcv1 hcv2
                have H5 := Lib.hid h5
                have HW := Lib.hid (show (convert 27 9 (.slice a5 B.length c5)).run Try.prog w5.drew = .ok (.string sb) w5.drew from by have := conv_any (hr5.below (below_drew _ _)); rwa [HSB.out] at this)
                clear h5 hr5 hb5
                go_wp2_with fail
                go_region_held (fun W => (convert 27 9 (.slice a5 B.length c5)).run Try.prog W = .ok (.string sb) W) (exact HW.out) (fail)
                go_wp2_with fail
                refine ⟨⟨k + 1, 0 + 1, B, d1.restart, by omega, by have := HL.out.2.2.2; omega, by go_num, by rw [HSB.out], by go_num, HI.out, ?_⟩, by simp [intOf]; omega⟩
                exact StV.of_st ((H5.out.below (below_drew _ _)).st)
            | false =>
              rcases hout with ⟨rfl, hinv2⟩ | ⟨rfl, hinv2 | hinv2⟩
              · have HI := Lib.hid hinv2
                have HLD := Lib.hid (show slotLoad d1.restart = some (0 + 1, B) from by have := inv_load HI.out (by omega); rwa [if_neg (by omega)] at this)
                clear hinv2 gx
                rw [if_neg (by simp)] at hdA
                have H2 := Lib.hid (show StV w _ _ dA _ from by rw [hdA]; exact HV.out)
                clear hdA
                go_wp2_with fail
                refine (save_sv H2.out (((0 : Nat) : Int) + 1) HC.out.1 HSV.out (by have := HL.out.1; omega) (by have := HL.out.1; rw [HN.out.1]; omega) (by have := HL.out.1; rw [HN.out.2]; simp; omega)).mono ?_
                rintro e w3 ⟨rfl, h3⟩
                have H3 := Lib.hid h3
                clear h3
                go_wp2_with fail
                refine (restart_sv H3.out rfl).mono ?_
                rintro e w4 ⟨rfl, h4⟩
                have H4 := Lib.hid h4
                clear h4
                go_wp2_with fail
                refine (load_sv H4.out (z := ((0 : Nat) : Int) + 1) (ok := true) (B := B) HLD.out (by show ((0 + 1 : Nat) : Int) = _; omega) rfl rfl).mono ?_
                rintro e w5 ⟨a5, c5, rfl, h5, hr5, hb5⟩
                have hcell2 := cell_zero (h5.cell List.mem_cons_self)
                have hcv1 := conv_any hr5
                have hcv2 := conv_any (HC.out.1.below h5.old)
                rw [HSB.out] at hcv1 hcv2
                have H5 := Lib.hid h5
                have HW := Lib.hid (show (convert 27 9 (.slice a5 B.length c5)).run Try.prog w5.drew = .ok (.string sb) w5.drew from by have := conv_any (hr5.below (below_drew _ _)); rwa [HSB.out] at this)
                clear h5 hr5 hb5
                go_wp2_with fail
                go_region_held (fun W => (convert 27 9 (.slice a5 B.length c5)).run Try.prog W = .ok (.string sb) W) (exact HW.out) (fail)
                go_wp2_with fail
                refine ⟨⟨k + 1, 0 + 1, B, d1.restart, by omega, by have := HL.out.2.2.2; omega, by go_num, by rw [HSB.out], by go_num, HI.out, ?_⟩, by simp [intOf]; omega⟩
                exact StV.of_st ((H5.out.below (below_drew _ _)).st)
              · have HI := Lib.hid hinv2
                have HLD := Lib.hid (show slotLoad d1.restart = none from by have := inv_load HI.out (by omega); rwa [if_pos rfl] at this)
                have hl0 : last = [] := by
                  rcases HI.out.cur with ⟨-, h, -⟩ | ⟨h, -⟩
                  · exact h
                  · omega
                subst hl0
                clear hinv2 gx
                rw [if_neg (by simp)] at hdA
                have H2 := Lib.hid (show StV w _ _ dA _ from by rw [hdA]; exact HV.out)
                clear hdA
                go_wp2_with fail
                refine (save_sv H2.out (((0 : Nat) : Int) + 1) HC.out.1 HSV.out (by have := HL.out.1; omega) (by have := HL.out.1; rw [HN.out.1]; omega) (by have := HL.out.1; rw [HN.out.2]; simp; omega)).mono ?_
                rintro e w3 ⟨rfl, h3⟩
                have H3 := Lib.hid h3
                clear h3
                go_wp2_with fail
                refine (restart_sv H3.out rfl).mono ?_
                rintro e w4 ⟨rfl, h4⟩
                have H4 := Lib.hid h4
                clear h4
                go_wp2_with fail
                refine (load_sv H4.out (z := 0) (ok := false) (B := []) HLD.out rfl rfl rfl).mono ?_
                rintro e w5 ⟨a5, c5, rfl, h5, hr5, hb5⟩
                have hcell2 := cell_zero (h5.cell List.mem_cons_self)
                have hcv1 : (convert 27 9 (.slice a5 0 c5)).run Try.prog w5 = .ok (.string sl) w5 := by have := conv_any hr5; rwa [HSL.out] at this
                have hcv2 := conv_any (HC.out.1.below h5.old)
                rw [HSB.out] at hcv2
                have H5 := Lib.hid h5
                clear h5 hr5 hb5
                go_wp2_with fail
                refine ⟨⟨k + 1, 0, [], d1.restart, by omega, by have := HL.out.2.2.2; omega, by go_num, by rw [HSL.out], by go_num, HI.out, ?_⟩, by simp [intOf]; omega⟩
                exact StV.of_st H5.out.st
              · have HI := Lib.hid hinv2
                have HLD := Lib.hid (show slotLoad d1.restart = some (0 + 1, B) from by have := inv_load HI.out (by omega); rwa [if_neg (by omega)] at this)
                clear hinv2 gx
                rw [if_neg (by simp)] at hdA
                have H2 := Lib.hid (show StV w _ _ dA _ from by rw [hdA]; exact HV.out)
                clear hdA
                go_wp2_with fail
                refine (save_sv H2.out (((0 : Nat) : Int) + 1) HC.out.1 HSV.out (by have := HL.out.1; omega) (by have := HL.out.1; rw [HN.out.1]; omega) (by have := HL.out.1; rw [HN.out.2]; simp; omega)).mono ?_
                rintro e w3 ⟨rfl, h3⟩
                have H3 := Lib.hid h3
                clear h3
                go_wp2_with fail
                refine (restart_sv H3.out rfl).mono ?_
                rintro e w4 ⟨rfl, h4⟩
                have H4 := Lib.hid h4
                clear h4
                go_wp2_with fail
                refine (load_sv H4.out (z := ((0 : Nat) : Int) + 1) (ok := true) (B := B) HLD.out (by show ((0 + 1 : Nat) : Int) = _; omega) rfl rfl).mono ?_
                rintro e w5 ⟨a5, c5, rfl, h5, hr5, hb5⟩
                have hcell2 := cell_zero (h5.cell List.mem_cons_self)
                have hcv1 := conv_any hr5
                have hcv2 := conv_any (HC.out.1.below h5.old)
                rw [HSB.out] at hcv1 hcv2
                have H5 := Lib.hid h5
                have HW := Lib.hid (show (convert 27 9 (.slice a5 B.length c5)).run Try.prog w5.drew = .ok (.string sb) w5.drew from by have := conv_any (hr5.below (below_drew _ _)); rwa [HSB.out] at this)
                clear h5 hr5 hb5
                go_wp2_with fail
                go_region_held (fun W => (convert 27 9 (.slice a5 B.length c5)).run Try.prog W = .ok (.string sb) W) (exact HW.out) (fail)
                go_wp2_with fail
                refine ⟨⟨k + 1, 0 + 1, B, d1.restart, by omega, by have := HL.out.2.2.2; omega, by go_num, by rw [HSB.out], by go_num, HI.out, ?_⟩, by simp [intOf]; omega⟩
                exact StV.of_st ((H5.out.below (below_drew _ _)).st)
          · have gp : (0 : Int) < (gen : Int) := by omega
            cases arm with
            | true =>
              rcases hout with ⟨rfl, hinv2⟩ | ⟨rfl, hinv2 | hinv2⟩
              · have HI := Lib.hid hinv2
                have HLD := Lib.hid (show slotLoad d1.restart = some (gen + 1, B) from by have := inv_load HI.out (by omega); rwa [if_neg (by omega)] at this)
                clear hinv2 gx
                have HDA := Lib.hid (show d.arm at_ lf = dA from by rw [hdA, if_pos rfl])
                clear hdA
                go_wp2_with fail
                refine (arm_sv HV.out at_ (HC.out.2.1.below HV.out.old) (by have := HL.out.2.1; omega) HDA.out).mono ?_
                rintro e w2 ⟨rfl, h2⟩
                have H2 := Lib.hid h2
                have hcell := cell_zero (h2.cell List.mem_cons_self)
                clear h2
                go_wp2_with fail
                refine (save_sv H2.out (((gen : Nat) : Int) + 1) HC.out.1 HSV.out (by have := HL.out.1; omega) (by have := HL.out.1; rw [HN.out.1]; omega) (by have := HL.out.1; rw [HN.out.2]; simp; omega)).mono ?_
                rintro e w3 ⟨rfl, h3⟩
                have H3 := Lib.hid h3
                clear h3
                go_wp2_with fail
                refine (restart_sv H3.out rfl).mono ?_
                rintro e w4 ⟨rfl, h4⟩
                have H4 := Lib.hid h4
                clear h4
                go_wp2_with fail
                refine (load_sv H4.out (z := ((gen : Nat) : Int) + 1) (ok := true) (B := B) HLD.out (by show ((gen + 1 : Nat) : Int) = _; omega) rfl rfl).mono ?_
                rintro e w5 ⟨a5, c5, rfl, h5, hr5, hb5⟩
                have hcell2 := cell_zero (h5.cell List.mem_cons_self)
                have hcv1 := conv_any hr5
                have hcv2 := conv_any (HC.out.1.below h5.old)
                rw [HSB.out] at hcv1 hcv2
                have H5 := Lib.hid h5
                have HW := Lib.hid (show (convert 27 9 (.slice a5 B.length c5)).run Try.prog w5.drew = .ok (.string sb) w5.drew from by have := conv_any (hr5.below (below_drew _ _)); rwa [HSB.out] at this)
                clear h5 hr5 hb5
                go_wp2_with fail
                go_region_held (fun W => (convert 27 9 (.slice a5 B.length c5)).run Try.prog W = .ok (.string sb) W) (exact HW.out) (fail)
                go_wp2_with fail
                refine ⟨⟨k + 1, gen + 1, B, d1.restart, by omega, by have := HL.out.2.2.2; omega, by go_num, by rw [HSB.out], by go_num, HI.out, ?_⟩, by simp [intOf]; omega⟩
                exact StV.of_st ((H5.out.below (below_drew _ _)).st)
              · have HI := Lib.hid hinv2
                have HLD := Lib.hid (show slotLoad d1.restart = some (gen, last) from by have := inv_load HI.out (by omega); rwa [if_neg (by omega)] at this)
                clear hinv2 gx
                have HDA := Lib.hid (show d.arm at_ lf = dA from by rw [hdA, if_pos rfl])
                clear hdA
                go_wp2_with fail
                refine (arm_sv HV.out at_ (HC.out.2.1.below HV.out.old) (by have := HL.out.2.1; omega) HDA.out).mono ?_
                rintro e w2 ⟨rfl, h2⟩
                have H2 := Lib.hid h2
                have hcell := cell_zero (h2.cell List.mem_cons_self)
                clear h2
                go_wp2_with fail
                refine (save_sv H2.out (((gen : Nat) : Int) + 1) HC.out.1 HSV.out (by have := HL.out.1; omega) (by have := HL.out.1; rw [HN.out.1]; omega) (by have := HL.out.1; rw [HN.out.2]; simp; omega)).mono ?_
                rintro e w3 ⟨rfl, h3⟩
                have H3 := Lib.hid h3
                clear h3
                go_wp2_with fail
                refine (restart_sv H3.out rfl).mono ?_
                rintro e w4 ⟨rfl, h4⟩
                have H4 := Lib.hid h4
                clear h4
                go_wp2_with fail
                refine (load_sv H4.out (z := (gen : Int)) (ok := true) (B := last) HLD.out rfl rfl rfl).mono ?_
                rintro e w5 ⟨a5, c5, rfl, h5, hr5, hb5⟩
                have hcell2 := cell_zero (h5.cell List.mem_cons_self)
                have hcv1 := conv_any hr5
                have hcv2 := conv_any (HC.out.1.below h5.old)
                rw [HSL.out] at hcv1
                rw [HSB.out] at hcv2
                have H5 := Lib.hid h5
                clear h5 hr5 hb5
                go_wp2_with fail
                refine ⟨⟨k + 1, gen, last, d1.restart, by omega, by have := HL.out.2.2.2; omega, by go_num, by rw [HSL.out], by go_num, HI.out, ?_⟩, by simp [intOf]; omega⟩
                exact StV.of_st H5.out.st
              · have HI := Lib.hid hinv2
                have HLD := Lib.hid (show slotLoad d1.restart = some (gen + 1, B) from by have := inv_load HI.out (by omega); rwa [if_neg (by omega)] at this)
                clear hinv2 gx
                have HDA := Lib.hid (show d.arm at_ lf = dA from by rw [hdA, if_pos rfl])
                clear hdA
                go_wp2_with fail
                refine (arm_sv HV.out at_ (HC.out.2.1.below HV.out.old) (by have := HL.out.2.1; omega) HDA.out).mono ?_
                rintro e w2 ⟨rfl, h2⟩
                have H2 := Lib.hid h2
                have hcell := cell_zero (h2.cell List.mem_cons_self)
                clear h2
                go_wp2_with fail
                refine (save_sv H2.out (((gen : Nat) : Int) + 1) HC.out.1 HSV.out (by have := HL.out.1; omega) (by have := HL.out.1; rw [HN.out.1]; omega) (by have := HL.out.1; rw [HN.out.2]; simp; omega)).mono ?_
                rintro e w3 ⟨rfl, h3⟩
                have H3 := Lib.hid h3
                clear h3
                go_wp2_with fail
                refine (restart_sv H3.out rfl).mono ?_
                rintro e w4 ⟨rfl, h4⟩
                have H4 := Lib.hid h4
                clear h4
                go_wp2_with fail
                refine (load_sv H4.out (z := ((gen : Nat) : Int) + 1) (ok := true) (B := B) HLD.out (by show ((gen + 1 : Nat) : Int) = _; omega) rfl rfl).mono ?_
                rintro e w5 ⟨a5, c5, rfl, h5, hr5, hb5⟩
                have hcell2 := cell_zero (h5.cell List.mem_cons_self)
                have hcv1 := conv_any hr5
                have hcv2 := conv_any (HC.out.1.below h5.old)
                rw [HSB.out] at hcv1 hcv2
                have H5 := Lib.hid h5
                have HW := Lib.hid (show (convert 27 9 (.slice a5 B.length c5)).run Try.prog w5.drew = .ok (.string sb) w5.drew from by have := conv_any (hr5.below (below_drew _ _)); rwa [HSB.out] at this)
                clear h5 hr5 hb5
                go_wp2_with fail
                go_region_held (fun W => (convert 27 9 (.slice a5 B.length c5)).run Try.prog W = .ok (.string sb) W) (exact HW.out) (fail)
                go_wp2_with fail
                refine ⟨⟨k + 1, gen + 1, B, d1.restart, by omega, by have := HL.out.2.2.2; omega, by go_num, by rw [HSB.out], by go_num, HI.out, ?_⟩, by simp [intOf]; omega⟩
                exact StV.of_st ((H5.out.below (below_drew _ _)).st)
            | false =>
              rcases hout with ⟨rfl, hinv2⟩ | ⟨rfl, hinv2 | hinv2⟩
              · have HI := Lib.hid hinv2
                have HLD := Lib.hid (show slotLoad d1.restart = some (gen + 1, B) from by have := inv_load HI.out (by omega); rwa [if_neg (by omega)] at this)
                clear hinv2 gx
                rw [if_neg (by simp)] at hdA
                have H2 := Lib.hid (show StV w _ _ dA _ from by rw [hdA]; exact HV.out)
                clear hdA
                go_wp2_with fail
                refine (save_sv H2.out (((gen : Nat) : Int) + 1) HC.out.1 HSV.out (by have := HL.out.1; omega) (by have := HL.out.1; rw [HN.out.1]; omega) (by have := HL.out.1; rw [HN.out.2]; simp; omega)).mono ?_
                rintro e w3 ⟨rfl, h3⟩
                have H3 := Lib.hid h3
                clear h3
                go_wp2_with fail
                refine (restart_sv H3.out rfl).mono ?_
                rintro e w4 ⟨rfl, h4⟩
                have H4 := Lib.hid h4
                clear h4
                go_wp2_with fail
                refine (load_sv H4.out (z := ((gen : Nat) : Int) + 1) (ok := true) (B := B) HLD.out (by show ((gen + 1 : Nat) : Int) = _; omega) rfl rfl).mono ?_
                rintro e w5 ⟨a5, c5, rfl, h5, hr5, hb5⟩
                have hcell2 := cell_zero (h5.cell List.mem_cons_self)
                have hcv1 := conv_any hr5
                have hcv2 := conv_any (HC.out.1.below h5.old)
                rw [HSB.out] at hcv1 hcv2
                have H5 := Lib.hid h5
                have HW := Lib.hid (show (convert 27 9 (.slice a5 B.length c5)).run Try.prog w5.drew = .ok (.string sb) w5.drew from by have := conv_any (hr5.below (below_drew _ _)); rwa [HSB.out] at this)
                clear h5 hr5 hb5
                go_wp2_with fail
                go_region_held (fun W => (convert 27 9 (.slice a5 B.length c5)).run Try.prog W = .ok (.string sb) W) (exact HW.out) (fail)
                go_wp2_with fail
                refine ⟨⟨k + 1, gen + 1, B, d1.restart, by omega, by have := HL.out.2.2.2; omega, by go_num, by rw [HSB.out], by go_num, HI.out, ?_⟩, by simp [intOf]; omega⟩
                exact StV.of_st ((H5.out.below (below_drew _ _)).st)
              · have HI := Lib.hid hinv2
                have HLD := Lib.hid (show slotLoad d1.restart = some (gen, last) from by have := inv_load HI.out (by omega); rwa [if_neg (by omega)] at this)
                clear hinv2 gx
                rw [if_neg (by simp)] at hdA
                have H2 := Lib.hid (show StV w _ _ dA _ from by rw [hdA]; exact HV.out)
                clear hdA
                go_wp2_with fail
                refine (save_sv H2.out (((gen : Nat) : Int) + 1) HC.out.1 HSV.out (by have := HL.out.1; omega) (by have := HL.out.1; rw [HN.out.1]; omega) (by have := HL.out.1; rw [HN.out.2]; simp; omega)).mono ?_
                rintro e w3 ⟨rfl, h3⟩
                have H3 := Lib.hid h3
                clear h3
                go_wp2_with fail
                refine (restart_sv H3.out rfl).mono ?_
                rintro e w4 ⟨rfl, h4⟩
                have H4 := Lib.hid h4
                clear h4
                go_wp2_with fail
                refine (load_sv H4.out (z := (gen : Int)) (ok := true) (B := last) HLD.out rfl rfl rfl).mono ?_
                rintro e w5 ⟨a5, c5, rfl, h5, hr5, hb5⟩
                have hcell2 := cell_zero (h5.cell List.mem_cons_self)
                have hcv1 := conv_any hr5
                have hcv2 := conv_any (HC.out.1.below h5.old)
                rw [HSL.out] at hcv1
                rw [HSB.out] at hcv2
                have H5 := Lib.hid h5
                clear h5 hr5 hb5
                go_wp2_with fail
                refine ⟨⟨k + 1, gen, last, d1.restart, by omega, by have := HL.out.2.2.2; omega, by go_num, by rw [HSL.out], by go_num, HI.out, ?_⟩, by simp [intOf]; omega⟩
                exact StV.of_st H5.out.st
              · have HI := Lib.hid hinv2
                have HLD := Lib.hid (show slotLoad d1.restart = some (gen + 1, B) from by have := inv_load HI.out (by omega); rwa [if_neg (by omega)] at this)
                clear hinv2 gx
                rw [if_neg (by simp)] at hdA
                have H2 := Lib.hid (show StV w _ _ dA _ from by rw [hdA]; exact HV.out)
                clear hdA
                go_wp2_with fail
                refine (save_sv H2.out (((gen : Nat) : Int) + 1) HC.out.1 HSV.out (by have := HL.out.1; omega) (by have := HL.out.1; rw [HN.out.1]; omega) (by have := HL.out.1; rw [HN.out.2]; simp; omega)).mono ?_
                rintro e w3 ⟨rfl, h3⟩
                have H3 := Lib.hid h3
                clear h3
                go_wp2_with fail
                refine (restart_sv H3.out rfl).mono ?_
                rintro e w4 ⟨rfl, h4⟩
                have H4 := Lib.hid h4
                clear h4
                go_wp2_with fail
                refine (load_sv H4.out (z := ((gen : Nat) : Int) + 1) (ok := true) (B := B) HLD.out (by show ((gen + 1 : Nat) : Int) = _; omega) rfl rfl).mono ?_
                rintro e w5 ⟨a5, c5, rfl, h5, hr5, hb5⟩
                have hcell2 := cell_zero (h5.cell List.mem_cons_self)
                have hcv1 := conv_any hr5
                have hcv2 := conv_any (HC.out.1.below h5.old)
                rw [HSB.out] at hcv1 hcv2
                have H5 := Lib.hid h5
                have HW := Lib.hid (show (convert 27 9 (.slice a5 B.length c5)).run Try.prog w5.drew = .ok (.string sb) w5.drew from by have := conv_any (hr5.below (below_drew _ _)); rwa [HSB.out] at this)
                clear h5 hr5 hb5
                go_wp2_with fail
                go_region_held (fun W => (convert 27 9 (.slice a5 B.length c5)).run Try.prog W = .ok (.string sb) W) (exact HW.out) (fail)
                go_wp2_with fail
                refine ⟨⟨k + 1, gen + 1, B, d1.restart, by omega, by have := HL.out.2.2.2; omega, by go_num, by rw [HSB.out], by go_num, HI.out, ?_⟩, by simp [intOf]; omega⟩
                exact StV.of_st ((H5.out.below (below_drew _ _)).st)
    · obtain rfl : k = ls.length := by omega
      have H3 := Lib.hid hst
      clear hst hlt hk
      go_wp2_with fail
      refine (known_any _).mono ?_
      rintro e w5 ⟨rfl, hb⟩
      have HB := Lib.hid (H3.out.below hb).old
      clear hb
      go_wp2_with fail
      go_ret
      exact ⟨rfl, HB.out⟩

set_option maxHeartbeats 1000000 in
theorem last_out (p : Option Addr) (n c : Nat) (w : World) (h : 20 < n) (hn : n ≤ 9223372036854775807) :
    Calls Try.prog 4 #[.slice p n c] w fun e w' => e = .returned (.bool true) ∧ Below w.heap.size w w' := by
  have h1 : (20 : Int) < (n : Int) := by omega
  clear h
  go_enter Try.func4, Try.ntmps4
  go_wp2_with fail
  go_ret
  exact ⟨rfl, Below.refl _ _⟩

/-- THE LAW's WALK. -/
theorem last_law_walk (p : Option Addr) (c : Nat) (ls : List ActV) (w : World) (h : ActsAt w p ls) (hm : ls.length ≤ 9223372036854775807) :
    Calls Try.prog 4 #[.slice p ls.length c] w fun e w' => e = .returned (.bool true) ∧ Below w.heap.size w w' := by
  by_cases h20 : 20 < ls.length
  · exact last_out p ls.length c w h20 hm
  · exact last_in p c ls w h (by omega)
end Go.Proofs.Ytffjdpkgcgdfdaa
