/-
  Proved: the walk of the law SlotPlays: of every script of acts, with crashes, what is saved and what is loaded is what the statements' own package answers; so it answers true and changes nothing that was there. Conditions: the acts can be read.
-/
import Derived.Test.YtffjdpkgcgdfdaaSlotTwo
import Derived.Test.YtffjdpkgcgdfdaaSlotFrame
import Derived.Deep.RegionHeld
namespace Go.Proofs.Ytffjdpkgcgdfdaa
open Go Go.RowKit DiskMath NetMem SpanMath SumMath

/-- The loop's words. -/
def RelP (ls : List ActV) (w : World) (p q i : Value) (wr : World) : Prop :=
  ∃ (k : Nat) (d : Dk), k ≤ ls.length ∧ i = .int .i64 (k : Int) ∧ d.n = 0 ∧ d.p = [] ∧ StX w wr p d q d []

theorem cell_five {W : World} {k : Nat} {v0 v1 v2 v3 v4 : Value} {t : TypeId} {fr : Nat × Nat} (h : W.heap[k]? = some (.cells #[v0, v1, v2, v3, v4] t fr)) :
    W.cell? ⟨k, 0, none⟩ = some v0 ∧ W.cell? ⟨k, 2, none⟩ = some v2 ∧ W.cell? ⟨k, 3, none⟩ = some v3 ∧ W.cell? ⟨k, 4, none⟩ = some v4 := by
  simp [World.cell?, h]

set_option maxHeartbeats 40000000 in
set_option maxRecDepth 100000 in
theorem plays_in (n : Nat) (p : Option Addr) (c : Nat) (ls : List ActV) (w : World) (h : ActsAt w p ls) (h60 : n ≤ 60) (h20 : ls.length ≤ 20) :
    Calls Try.prog 3 #[.int .i64 (n : Int), .slice p ls.length c] w fun e w' => e = .returned (.bool true) ∧ Below w.heap.size w w' := by
  have HS := Lib.hid (And.intro h (And.intro h20 h60))
  have g20 : (ls.length : Int) ≤ 20 := by omega
  have g0 : (0 : Int) ≤ (n : Int) := by omega
  have g60 : (n : Int) ≤ 60 := by omega
  clear h h20 h60
  go_enter Try.func3, Try.ntmps3
  go_wp2_with fail
  refine (new_st n (by omega) (n : Int) rfl w).mono ?_
  rintro e w1 ⟨g, rfl, h1⟩
  have H1 := Lib.hid h1
  clear h1
  go_wp2_with fail
  refine (rnew_x n (by omega) H1.out).mono ?_
  rintro e w2 ⟨gr, rfl, h2⟩
  have H2 := Lib.hid h2
  clear h2
  go_wp2_with fail
  go_loopw [7] (fun i wr => RelP ls w (.pointer (some ⟨g, 0, none⟩)) (.pointer (some ⟨gr, 0, none⟩)) i wr) (fun i _ => ls.length - (intOf i).toNat)
  case atStart => exact ⟨0, Dk.new n, by omega, rfl, rfl, rfl, H2.out⟩
  case round =>
    obtain ⟨k, d, hk, rfl, hn0, hp0, hst⟩ := hrel
    by_cases hlt : k < ls.length
    · obtain ⟨b, o, hp, hc0, hr, hkl, hlm⟩ := HS.out.1 k hlt
      subst hp
      obtain ⟨y, hy⟩ : ∃ y, y = ls[k] := ⟨_, rfl⟩
      rw [← hy] at hc0 hr hkl hlm
      obtain ⟨q, yc, B, arm, at_, lq, lc, lf, yg⟩ := y
      simp only at hr hkl hlm
      have hcx : ∀ W, Below w.heap.size w W → ∀ (j : Nat) v, (ActV.mk q yc B arm at_ lq lc lf yg).cells[j]? = some v → W.cell? ⟨b, o + k * 5 + j, none⟩ = some v := fun W hb j v hv => (hb.cell (p := ⟨b, o + k * 5 + j, none⟩) (World.block_lt_of_cell? w _ (hc0 j v hv))).trans (hc0 j v hv)
      have c0 : wr.cell? ⟨b, o + k * 5, none⟩ = some (.slice q B.length yc) := hcx wr hst.old 0 _ rfl
      have c1 := hcx wr hst.old 1 _ rfl
      have c2 := hcx wr hst.old 2 _ rfl
      have c3 := hcx wr hst.old 3 _ rfl
      have c4 := hcx wr hst.old 4 _ rfl
      have HC := Lib.hid (And.intro hr (And.intro hkl hst))
      have hkb : (k : Int) < 20 := by have := HS.out.2.1; omega
      have hkl' : (k : Int) < (ls.length : Int) := by omega
      clear hc0 hr hkl hlm hcx hst hy
      have HV := Lib.hid (HC.out.2.2.var (.cells #[.slice q B.length yc, .bool arm, .int .i64 at_, .slice lq lf.length lc, .int .i64 yg] 32))
      by_cases hlen : 300 < B.length
      · have hlb : (300 : Int) < (B.length : Int) := by omega
        clear hlen
        go_wp2_with fail
        go_ret
        exact ⟨rfl, HV.out.old⟩
      · have hlb : (B.length : Int) ≤ 300 := by omega
        by_cases hlf : 50 < lf.length
        · have hlf' : (50 : Int) < (lf.length : Int) := by omega
          clear hlen hlf
          go_wp2_with fail
          go_ret
          exact ⟨rfl, HV.out.old⟩
        · have hlf' : (lf.length : Int) ≤ 50 := by omega
          have HL := Lib.hid (And.intro (show B.length ≤ 300 by omega) (And.intro (show lf.length ≤ 50 by omega) (And.intro hk (And.intro hn0 hp0))))
          clear hlen hlf hk hn0 hp0
          cases arm with
          | true =>
              obtain ⟨dA, hdA⟩ : ∃ dA, dA = d.arm at_ lf := ⟨_, rfl⟩
              have HDA := Lib.hid (show dA.n = 0 ∧ dA.p = [] from by rw [hdA]; exact HL.out.2.2.2)
              have HDE := Lib.hid hdA
              clear hdA
              go_wp2_with fail
              refine (arm_x HV.out at_ (HC.out.2.1.below HV.out.old) (by have := HL.out.2.1; omega)).mono ?_
              rintro e w3 ⟨rfl, h3⟩
              obtain ⟨-, b2, b3, -⟩ := cell_five (h3.cell List.mem_cons_self)
              have H3 := Lib.hid h3
              clear h3
              go_wp2_with fail
              refine (rarm_x H3.out at_ HC.out.2.1).mono ?_
              rintro e W3 ⟨rfl, h4⟩
              rw [← HDE.out] at h4
              have HX := Lib.hid h4
              clear h4 b2 b3
              go_wp2_with fail
              obtain ⟨e0, d1, hsave⟩ : ∃ e0 d1, slotSave dA yg B = (e0, d1) := ⟨_, _, rfl⟩
              have HSV := Lib.hid hsave
              have hbe : (e0 != e0) = false := by simp
              obtain ⟨R, hR⟩ : ∃ R : Int, ((room d1 : Nat) : Int) = R := ⟨_, rfl⟩
              have HRR := Lib.hid hR
              have hbr : (R != R) = false := by simp
              have hS : ∀ W (x1 x2 : Dk), StX w W (.pointer (some ⟨g, 0, none⟩)) x1 (.pointer (some ⟨gr, 0, none⟩)) x2 [(wr.heap.size, .cells #[.slice q B.length yc, .bool true, .int .i64 at_, .slice lq lf.length lc, .int .i64 yg] 32)] → W.cell? ⟨wr.heap.size, 4, none⟩ = some (.int .i64 yg) ∧ W.cell? ⟨wr.heap.size, 0, none⟩ = some (.slice q B.length yc) := fun W x1 x2 h => ⟨(cell_five (h.cell List.mem_cons_self)).2.2.2, (cell_five (h.cell List.mem_cons_self)).1⟩
              have HSS := Lib.hid hS
              have HXD := Lib.hid (HX.out.below (below_drew W3.heap.size W3))
              have hS0 := hS W3.drew _ _ HXD.out
              have HP1 := Lib.hid (save_x HXD.out yg HC.out.1 HSV.out (by have := HL.out.1; omega) (by have := HL.out.1; rw [HDA.out.1]; omega) (by have := HL.out.1; rw [HDA.out.2]; simp; omega))
              have HS0 := Lib.hid hS0
              clear hsave hR hS hS0 c0 c1 c2 c3 c4 hlb hlf'
              go_region_held (fun W => W.cell? ⟨wr.heap.size, 4, none⟩ = some (.int .i64 yg) ∧ W.cell? ⟨wr.heap.size, 0, none⟩ = some (.slice q B.length yc)) (first | assumption | exact HS0.out)
                (first
                  | (go_at_call 11; (with_reducible refine HP1.out.mono ?_); rintro e w4 ⟨rfl, h4⟩; have hs4 := HSS.out _ _ _ h4; have H4 := Lib.hid h4; clear h4)
                  | (go_at_call 12; (with_reducible refine (rsave_x H4.out yg HC.out.1 HSV.out (by have := HL.out.1; omega) (by have := HL.out.1; rw [HDA.out.1]; omega) (by have := HL.out.1; rw [HDA.out.2]; simp; omega)).mono ?_); rintro e w5 ⟨rfl, h5⟩; have hs5 := HSS.out _ _ _ h5; have H5 := Lib.hid h5; clear h5)
                  | (go_at_call 13; (with_reducible refine (room_x H5.out HRR.out).mono ?_); rintro e w6 ⟨rfl, rfl⟩)
                  | (go_at_call 14; (with_reducible refine (rroom_x H5.out HRR.out).mono ?_); rintro e w7 ⟨rfl, rfl⟩))
              clear hs4 hs5 hbe hbr HSS HP1 HS0 HXD
              obtain ⟨o2, ho2⟩ : ∃ o2, slotLoad d1.restart = o2 := ⟨_, rfl⟩
              obtain ⟨z, hz⟩ : ∃ z : Int, (genOf o2 : Int) = z := ⟨_, rfl⟩
              obtain ⟨ok, hok⟩ : ∃ ok : Bool, o2.isSome = ok := ⟨_, rfl⟩
              obtain ⟨BB, hBB⟩ : ∃ BB, bytesOf o2 = BB := ⟨_, rfl⟩
              obtain ⟨sb, hsb⟩ : ∃ sb : ByteArray, (⟨BB.toArray⟩ : ByteArray) = sb := ⟨_, rfl⟩
              have HO := Lib.hid (And.intro ho2 (And.intro hz (And.intro hok (And.intro hBB hsb))))
              clear ho2 hz hok hBB hsb
              go_wp2_with fail
              refine (restart_x H5.out).mono ?_
              rintro e w8 ⟨rfl, h8⟩
              have H8 := Lib.hid h8
              clear h8
              go_wp2_with fail
              refine (rrestart_x H8.out).mono ?_
              rintro e w9 ⟨rfl, h9⟩
              have H9 := Lib.hid h9
              clear h9
              go_wp2_with fail
              refine (load_x H9.out HO.out.1 HO.out.2.1 HO.out.2.2.1 HO.out.2.2.2.1).mono ?_
              rintro e w10 ⟨a10, c10, rfl, hr10, hb10⟩
              have H10 := Lib.hid (And.intro hr10 (H9.out.below hb10))
              clear hr10 hb10
              go_wp2_with fail
              refine (rload_x H10.out.2 HO.out.1 HO.out.2.1 HO.out.2.2.1 HO.out.2.2.2.1).mono ?_
              rintro e w11 ⟨a11, c11, rfl, hr11, hb11⟩
              have hcv1 := conv_any (H10.out.1.below hb11)
              have hcv2 := conv_any hr11
              rw [HO.out.2.2.2.2] at hcv1 hcv2
              have H11 := Lib.hid (H10.out.2.below hb11)
              clear hr11 hb11
              go_wp2_with fail
              exact ⟨⟨k + 1, d1.restart, by omega, by go_num, rfl, rfl, H11.out.less fun y hy => (List.not_mem_nil hy).elim⟩, by simp [intOf]; omega⟩
          | false =>
              obtain ⟨dA, hdA⟩ : ∃ dA, dA = d := ⟨_, rfl⟩
              have HDA := Lib.hid (show dA.n = 0 ∧ dA.p = [] from by rw [hdA]; exact HL.out.2.2.2)
              rw [← hdA] at HV
              clear hdA
              go_wp2_with fail
              obtain ⟨W3, hW3⟩ : ∃ W3, W3 = wr.alloc (.cells #[.slice q B.length yc, .bool false, .int .i64 at_, .slice lq lf.length lc, .int .i64 yg] 32) := ⟨_, rfl⟩
              have HX := HV
              rw [← hW3] at HX ⊢
              clear hW3
              obtain ⟨e0, d1, hsave⟩ : ∃ e0 d1, slotSave dA yg B = (e0, d1) := ⟨_, _, rfl⟩
              have HSV := Lib.hid hsave
              have hbe : (e0 != e0) = false := by simp
              obtain ⟨R, hR⟩ : ∃ R : Int, ((room d1 : Nat) : Int) = R := ⟨_, rfl⟩
              have HRR := Lib.hid hR
              have hbr : (R != R) = false := by simp
              have hS : ∀ W (x1 x2 : Dk), StX w W (.pointer (some ⟨g, 0, none⟩)) x1 (.pointer (some ⟨gr, 0, none⟩)) x2 [(wr.heap.size, .cells #[.slice q B.length yc, .bool false, .int .i64 at_, .slice lq lf.length lc, .int .i64 yg] 32)] → W.cell? ⟨wr.heap.size, 4, none⟩ = some (.int .i64 yg) ∧ W.cell? ⟨wr.heap.size, 0, none⟩ = some (.slice q B.length yc) := fun W x1 x2 h => ⟨(cell_five (h.cell List.mem_cons_self)).2.2.2, (cell_five (h.cell List.mem_cons_self)).1⟩
              have HSS := Lib.hid hS
              have HXD := Lib.hid (HX.out.below (below_drew W3.heap.size W3))
              have hS0 := hS W3.drew _ _ HXD.out
              have HP1 := Lib.hid (save_x HXD.out yg HC.out.1 HSV.out (by have := HL.out.1; omega) (by have := HL.out.1; rw [HDA.out.1]; omega) (by have := HL.out.1; rw [HDA.out.2]; simp; omega))
              have HS0 := Lib.hid hS0
              clear hsave hR hS hS0 c0 c1 c2 c3 c4 hlb hlf'
              go_region_held (fun W => W.cell? ⟨wr.heap.size, 4, none⟩ = some (.int .i64 yg) ∧ W.cell? ⟨wr.heap.size, 0, none⟩ = some (.slice q B.length yc)) (first | assumption | exact HS0.out)
                (first
                  | (go_at_call 11; (with_reducible refine HP1.out.mono ?_); rintro e w4 ⟨rfl, h4⟩; have hs4 := HSS.out _ _ _ h4; have H4 := Lib.hid h4; clear h4)
                  | (go_at_call 12; (with_reducible refine (rsave_x H4.out yg HC.out.1 HSV.out (by have := HL.out.1; omega) (by have := HL.out.1; rw [HDA.out.1]; omega) (by have := HL.out.1; rw [HDA.out.2]; simp; omega)).mono ?_); rintro e w5 ⟨rfl, h5⟩; have hs5 := HSS.out _ _ _ h5; have H5 := Lib.hid h5; clear h5)
                  | (go_at_call 13; (with_reducible refine (room_x H5.out HRR.out).mono ?_); rintro e w6 ⟨rfl, rfl⟩)
                  | (go_at_call 14; (with_reducible refine (rroom_x H5.out HRR.out).mono ?_); rintro e w7 ⟨rfl, rfl⟩))
              clear hs4 hs5 hbe hbr HSS HP1 HS0 HXD
              obtain ⟨o2, ho2⟩ : ∃ o2, slotLoad d1.restart = o2 := ⟨_, rfl⟩
              obtain ⟨z, hz⟩ : ∃ z : Int, (genOf o2 : Int) = z := ⟨_, rfl⟩
              obtain ⟨ok, hok⟩ : ∃ ok : Bool, o2.isSome = ok := ⟨_, rfl⟩
              obtain ⟨BB, hBB⟩ : ∃ BB, bytesOf o2 = BB := ⟨_, rfl⟩
              obtain ⟨sb, hsb⟩ : ∃ sb : ByteArray, (⟨BB.toArray⟩ : ByteArray) = sb := ⟨_, rfl⟩
              have HO := Lib.hid (And.intro ho2 (And.intro hz (And.intro hok (And.intro hBB hsb))))
              clear ho2 hz hok hBB hsb
              go_wp2_with fail
              refine (restart_x H5.out).mono ?_
              rintro e w8 ⟨rfl, h8⟩
              have H8 := Lib.hid h8
              clear h8
              go_wp2_with fail
              refine (rrestart_x H8.out).mono ?_
              rintro e w9 ⟨rfl, h9⟩
              have H9 := Lib.hid h9
              clear h9
              go_wp2_with fail
              refine (load_x H9.out HO.out.1 HO.out.2.1 HO.out.2.2.1 HO.out.2.2.2.1).mono ?_
              rintro e w10 ⟨a10, c10, rfl, hr10, hb10⟩
              have H10 := Lib.hid (And.intro hr10 (H9.out.below hb10))
              clear hr10 hb10
              go_wp2_with fail
              refine (rload_x H10.out.2 HO.out.1 HO.out.2.1 HO.out.2.2.1 HO.out.2.2.2.1).mono ?_
              rintro e w11 ⟨a11, c11, rfl, hr11, hb11⟩
              have hcv1 := conv_any (H10.out.1.below hb11)
              have hcv2 := conv_any hr11
              rw [HO.out.2.2.2.2] at hcv1 hcv2
              have H11 := Lib.hid (H10.out.2.below hb11)
              clear hr11 hb11
              go_wp2_with fail
              exact ⟨⟨k + 1, d1.restart, by omega, by go_num, rfl, rfl, H11.out.less fun y hy => (List.not_mem_nil hy).elim⟩, by simp [intOf]; omega⟩
    · obtain rfl : k = ls.length := by omega
      have H3 := Lib.hid hst
      clear hst hlt hk hn0 hp0
      go_wp2_with fail
      refine (known_any _).mono ?_
      rintro e w5 ⟨rfl, hb⟩
      have HB := Lib.hid (H3.out.below hb).old
      clear hb
      go_wp2_with fail
      go_ret
      exact ⟨rfl, HB.out⟩

set_option maxHeartbeats 1000000 in
theorem plays_out (n : Int) (p : Option Addr) (m c : Nat) (w : World) (hm : m ≤ 9223372036854775807) (h : n < 0 ∨ 60 < n ∨ 20 < m) :
    Calls Try.prog 3 #[.int .i64 n, .slice p m c] w fun e w' => e = .returned (.bool true) ∧ Below w.heap.size w w' := by
  have main : (n < 0) ∨ (0 ≤ n ∧ 60 < n) ∨ (0 ≤ n ∧ n ≤ 60 ∧ (20 : Int) < (m : Int)) := by omega
  clear h
  rcases main with g1 | ⟨g1, g2⟩ | ⟨g1, g2, g3⟩
  all_goals
    go_enter Try.func3, Try.ntmps3
    go_wp2_with fail
    go_ret
    exact ⟨rfl, Below.refl _ _⟩

/-- THE LAW's WALK. -/
theorem plays_law_walk (n : Int) (p : Option Addr) (c : Nat) (ls : List ActV) (w : World) (h : ActsAt w p ls) (hm : ls.length ≤ 9223372036854775807) :
    Calls Try.prog 3 #[.int .i64 n, .slice p ls.length c] w fun e w' => e = .returned (.bool true) ∧ Below w.heap.size w w' := by
  by_cases h1 : n < 0 ∨ 60 < n ∨ 20 < ls.length
  · exact plays_out n p ls.length c w hm h1
  · obtain ⟨m, rfl⟩ := Int.eq_ofNat_of_zero_le (show 0 ≤ n by omega)
    exact plays_in m p c ls w h (by omega) (by omega)
end Go.Proofs.Ytffjdpkgcgdfdaa
