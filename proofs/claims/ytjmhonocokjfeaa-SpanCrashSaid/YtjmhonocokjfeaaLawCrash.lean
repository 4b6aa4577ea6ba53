/-
  Proved: the walk of the law SpanCrash: where a disk crashes within Put the span is there, or none of its tag; so it answers true and changes nothing that was there. Conditions: the bytes and the choices can be read.
-/
import Derived.Test.YtjmhonocokjfeaaSpanLaw
namespace Go.Proofs.Ytjmhonocokjfeaa
open Go Go.RowKit DiskMath NetMem SpanMath

theorem restart_la (d : Dk) (h : d.p = []) (k : Nat) : la d.restart k = la d k := la_of (by rw [restart_s d h])
theorem restart_fl (d : Dk) (h : d.p = []) (k : Nat) : fl d.restart k = fl d k := fl_of (by rw [restart_s d h])

theorem crash_model (a b : List UInt8) (S T : Nat) (hS : S < 4294967296) (hT : T < 4294967296) (hst : S ≠ T) (ht : T ≠ 0) (ha : a.length ≤ 200) (hb : b.length ≤ 200) (at_ : Int) (l : List Int) :
    ∃ d1 d4 e, spanPut (Dk.new 20) 2 18 S a = (0, d1) ∧ spanPut (d1.restart.arm at_ l) 2 18 T b = (e, d4) ∧ (d1.restart.arm at_ l).n = 0 ∧ (d1.restart.arm at_ l).p = [] ∧
      (e = 0 ∧ spanGet d4.restart 2 18 = some (T, b) ∨ e = 5 ∧ (spanGet d4.restart 2 18 = none ∨ ∃ u c, spanGet d4.restart 2 18 = some (u, c) ∧ (u ≠ T ∨ u = T ∧ c = b))) := by
  have hca : cnt a.length ≤ 13 := by unfold cnt; omega
  have hcb : cnt b.length ≤ 13 := by unfold cnt; omega
  have hlen : (Dk.new 20).s.length = 20 := by simp [Dk.new]
  have hla : 2 + cnt a.length < (Dk.new 20).s.length := by omega
  obtain ⟨d1, hd1⟩ : ∃ d1, d1 = done (Dk.new 20) 2 S a := ⟨_, rfl⟩
  have h1 : spanPut (Dk.new 20) 2 18 S a = (0, d1) := by rw [hd1]; exact put_well (Dk.new 20) 2 18 S a rfl rfl (by unfold need; omega) hla
  have hp1 : d1.p = [] := by rw [hd1]; rfl
  have hl1 : d1.s.length = 20 := by rw [hd1, done_len, hlen]
  have e1 : la d1 2 = headB S a := by rw [hd1]; exact (done_here (Dk.new 20) 2 S a hla).1
  have e2 : fl d1 2 = headB S a := by rw [hd1]; exact done_fl (Dk.new 20) 2 S a hla
  have hl3 : (d1.restart.arm at_ l).s.length = 20 := by show d1.restart.s.length = 20; rw [restart_s d1 hp1, hl1]
  have e3 : la (d1.restart.arm at_ l) 2 = headB S a := (restart_la d1 hp1 2).trans e1
  have e4 : fl (d1.restart.arm at_ l) 2 = headB S a := (restart_fl d1 hp1 2).trans e2
  have hlb : 2 + cnt b.length < (d1.restart.arm at_ l).s.length := by omega
  rcases crash_law (d1.restart.arm at_ l) 2 18 18 S T a b hS hst (by omega) rfl rfl (by unfold need; omega) hlb e3 e4 with h | ⟨d4, h, hc⟩
  · refine ⟨d1, done (d1.restart.arm at_ l) 2 T b, 0, h1, h, rfl, rfl, .inl ⟨rfl, ?_⟩⟩
    have hh := done_here (d1.restart.arm at_ l) 2 T b hlb
    have hr : ∀ k, la (done (d1.restart.arm at_ l) 2 T b).restart k = la (done (d1.restart.arm at_ l) 2 T b) k := fun k => restart_la _ rfl k
    have hln : (done (d1.restart.arm at_ l) 2 T b).restart.s.length = 20 := by rw [restart_s _ rfl, done_len, hl3]
    exact get_here _ 2 18 T b ⟨(hr _).trans hh.1, fun k hk => (hr _).trans (hh.2 k hk)⟩ hT ht (by omega) (by omega) (by unfold need; omega)
  · refine ⟨d1, d4, 5, h1, h, rfl, rfl, .inr ⟨rfl, ?_⟩⟩
    cases hg : spanGet d4.restart 2 18 with
    | none => exact .inl rfl
    | some x =>
      obtain ⟨u, c⟩ := x
      refine .inr ⟨u, c, rfl, ?_⟩
      by_cases hu : u = T
      · subst hu
        exact .inr ⟨rfl, hc c hg⟩
      · exact .inl hu

set_option maxHeartbeats 2000000 in
theorem crash_out (p0 p1 p2 : Option Addr) (n0 c0 n1 c1 n2 c2 : Nat) (S T : Nat) (at_ : Int) (w : World) (h0 : n0 ≤ 9223372036854775807) (h1 : n1 ≤ 9223372036854775807) (h2 : n2 ≤ 9223372036854775807)
    (h : 200 < n0 ∨ 200 < n1 ∨ S = T ∨ T = 0 ∨ 50 < n2 ∨ at_ < 0) :
    Calls Try.prog 4 #[.slice p0 n0 c0, .slice p1 n1 c1, .int .u32 (S : Int), .int .u32 (T : Int), .int .i64 at_, .slice p2 n2 c2] w fun e w' => e = .returned (.bool true) ∧ Below w.heap.size w w' := by
  have q : ∀ (n m : Nat), (m : Int) < (n : Int) ∨ (n : Int) ≤ (m : Int) := fun n m => by omega
  have main : ((200 : Int) < (n0 : Int)) ∨ ((n0 : Int) ≤ 200 ∧ ((200 : Int) < (n1 : Int))) ∨ ((n0 : Int) ≤ 200 ∧ (n1 : Int) ≤ 200 ∧ ((S : Int) == (T : Int)) = true) ∨ ((n0 : Int) ≤ 200 ∧ (n1 : Int) ≤ 200 ∧ ((S : Int) == (T : Int)) = false ∧ ((T : Int) == 0) = true) ∨
      ((n0 : Int) ≤ 200 ∧ (n1 : Int) ≤ 200 ∧ ((S : Int) == (T : Int)) = false ∧ ((T : Int) == 0) = false ∧ ((50 : Int) < (n2 : Int))) ∨ ((n0 : Int) ≤ 200 ∧ (n1 : Int) ≤ 200 ∧ ((S : Int) == (T : Int)) = false ∧ ((T : Int) == 0) = false ∧ (n2 : Int) ≤ 50 ∧ at_ < 0) := by
    simp only [beq_iff_eq, beq_eq_false_iff_ne, ne_eq]
    omega
  clear q h
  rcases main with g | ⟨g1, g2⟩ | ⟨g1, g2, g3⟩ | ⟨g1, g2, g3, g4⟩ | ⟨g1, g2, g3, g4, g5⟩ | ⟨g1, g2, g3, g4, g5, g6⟩
  all_goals
    go_enter Try.func4, Try.ntmps4
    go_wp2_with fail
    all_goals
      go_ret
      exact ⟨rfl, Below.refl _ _⟩

set_option maxHeartbeats 4000000 in
set_option maxRecDepth 100000 in
theorem crash_in (p0 p1 p2 : Option Addr) (c0 c1 c2 : Nat) (a b : List UInt8) (l : List Int) (S T : Nat) (at_ : Int) (w : World) (hra : Row w (.slice p0 a.length c0) a) (hrb : Row w (.slice p1 b.length c1) b) (hrl : KeepsAt w (.slice p2 l.length c2) l)
    (hS : S < 4294967296) (hT : T < 4294967296) (hst : S ≠ T) (ht : T ≠ 0) (ha : a.length ≤ 200) (hb : b.length ≤ 200) (hl : l.length ≤ 50) (hat : 0 ≤ at_) :
    Calls Try.prog 4 #[.slice p0 a.length c0, .slice p1 b.length c1, .int .u32 (S : Int), .int .u32 (T : Int), .int .i64 at_, .slice p2 l.length c2] w fun e w' => e = .returned (.bool true) ∧ Below w.heap.size w w' := by
  obtain ⟨d1, d4, e0, k1, k2, k3, k4, hg⟩ := crash_model a b S T hS hT hst ht ha hb at_ l
  have HN := Lib.hid (And.intro hS (And.intro hT (And.intro ha (And.intro hb hl))))
  have HA := Lib.hid (And.intro hra (And.intro hrb hrl))
  obtain ⟨sa, hsa⟩ : ∃ sa : ByteArray, (⟨b.toArray⟩ : ByteArray) = sa := ⟨_, rfl⟩
  have HSA := Lib.hid hsa
  have g1 : (a.length : Int) ≤ 200 := by omega
  have g2 : (b.length : Int) ≤ 200 := by omega
  have g3 : ((S : Int) == (T : Int)) = false := by simp; omega
  have g4 : ((T : Int) == 0) = false := by simp; omega
  have g5 : (l.length : Int) ≤ 50 := by omega
  clear hS hT hst ht ha hb hl hra hrb hrl hsa
  rcases hg with ⟨rfl, hg⟩ | ⟨rfl, hg | ⟨u, c, hg, hu | ⟨hu, hc⟩⟩⟩
  · have HM := Lib.hid (And.intro k1 (And.intro k2 (And.intro k3 (And.intro k4 hg))))
    clear k1 k2 k3 k4 hg
    go_enter Try.func4, Try.ntmps4
    go_wp2_with fail
    refine (new_st 20 (by omega) 20 rfl w).mono ?_
    rintro e w1 ⟨g, rfl, h1⟩
    have H1 := Lib.hid h1
    clear h1
    go_wp2_with fail
    refine (put_st H1.out 2 18 (by decide) (by decide) S HN.out.1 _ rfl HA.out.1 HM.out.1 (by have := HN.out.2.2.1; omega) (by have := HN.out.2.2.1; show 0 + a.length + 4 < _; omega) (by have := HN.out.2.2.1; show 0 + a.length + 4 < _; omega)).mono ?_
    rintro e w2 ⟨rfl, h2⟩
    have H2 := Lib.hid h2
    clear h2
    go_wp2_with fail
    refine (restart_st H2.out rfl).mono ?_
    rintro e w3 ⟨rfl, h3⟩
    have H3 := Lib.hid h3
    clear h3
    go_wp2_with fail
    refine (arm_st H3.out at_ (HA.out.2.2.below H3.out.old) (by have := HN.out.2.2.2.2; omega) rfl).mono ?_
    rintro e w4 ⟨rfl, h4⟩
    have H4 := Lib.hid h4
    clear h4
    go_wp2_with fail
    refine (put_st H4.out 2 18 (by decide) (by decide) T HN.out.2.1 _ rfl HA.out.2.1 HM.out.2.1 (by have := HN.out.2.2.2.1; omega) (by have := HN.out.2.2.2.1; rw [HM.out.2.2.1]; omega) (by have := HN.out.2.2.2.1; rw [HM.out.2.2.2.1]; simp; omega)).mono ?_
    rintro e w5 ⟨rfl, h5⟩
    have H5 := Lib.hid h5
    clear h5
    go_wp2_with fail
    refine (restart_st H5.out rfl).mono ?_
    rintro e w6 ⟨rfl, h6⟩
    have H6 := Lib.hid h6
    clear h6
    go_wp2_with fail
    refine (get_some_st H6.out 2 18 (z := (T : Int)) rfl HM.out.2.2.2.2).mono ?_
    rintro e w7 ⟨a7, c7, rfl, h7⟩
    have H7 := Lib.hid h7
    have hcv1 := conv_any (h7.row List.mem_cons_self).row
    have hcv2 := conv_any (HA.out.2.1.below h7.old)
    rw [HSA.out] at hcv1 hcv2
    clear h7
    go_wp2_with fail
    refine (known_any _).mono ?_
    rintro e w8 ⟨rfl, hb⟩
    have HB := Lib.hid (H7.out.below hb).old
    clear hb
    go_wp2_with fail
    go_ret
    exact ⟨rfl, HB.out⟩
  · have HM := Lib.hid (And.intro k1 (And.intro k2 (And.intro k3 (And.intro k4 hg))))
    clear k1 k2 k3 k4 hg
    go_enter Try.func4, Try.ntmps4
    go_wp2_with fail
    refine (new_st 20 (by omega) 20 rfl w).mono ?_
    rintro e w1 ⟨g, rfl, h1⟩
    have H1 := Lib.hid h1
    clear h1
    go_wp2_with fail
    refine (put_st H1.out 2 18 (by decide) (by decide) S HN.out.1 _ rfl HA.out.1 HM.out.1 (by have := HN.out.2.2.1; omega) (by have := HN.out.2.2.1; show 0 + a.length + 4 < _; omega) (by have := HN.out.2.2.1; show 0 + a.length + 4 < _; omega)).mono ?_
    rintro e w2 ⟨rfl, h2⟩
    have H2 := Lib.hid h2
    clear h2
    go_wp2_with fail
    refine (restart_st H2.out rfl).mono ?_
    rintro e w3 ⟨rfl, h3⟩
    have H3 := Lib.hid h3
    clear h3
    go_wp2_with fail
    refine (arm_st H3.out at_ (HA.out.2.2.below H3.out.old) (by have := HN.out.2.2.2.2; omega) rfl).mono ?_
    rintro e w4 ⟨rfl, h4⟩
    have H4 := Lib.hid h4
    clear h4
    go_wp2_with fail
    refine (put_st H4.out 2 18 (by decide) (by decide) T HN.out.2.1 _ rfl HA.out.2.1 HM.out.2.1 (by have := HN.out.2.2.2.1; omega) (by have := HN.out.2.2.2.1; rw [HM.out.2.2.1]; omega) (by have := HN.out.2.2.2.1; rw [HM.out.2.2.2.1]; simp; omega)).mono ?_
    rintro e w5 ⟨rfl, h5⟩
    have H5 := Lib.hid h5
    clear h5
    go_wp2_with fail
    refine (restart_st H5.out rfl).mono ?_
    rintro e w6 ⟨rfl, h6⟩
    have H6 := Lib.hid h6
    clear h6
    go_wp2_with fail
    refine (get_none_st H6.out 2 18 HM.out.2.2.2.2).mono ?_
    rintro e w7 ⟨v7, rfl, h7⟩
    have H7 := Lib.hid h7
    clear h7
    go_wp2_with fail
    refine (known_any _).mono ?_
    rintro e w8 ⟨rfl, hb⟩
    have HB := Lib.hid (H7.out.below hb).old
    clear hb
    go_wp2_with fail
    go_ret
    exact ⟨rfl, HB.out⟩
  · have HM := Lib.hid (And.intro k1 (And.intro k2 (And.intro k3 (And.intro k4 hg))))
    have g6 : ((u : Int) != (T : Int)) = true := by simp; omega
    clear k1 k2 k3 k4 hg hu
    go_enter Try.func4, Try.ntmps4
    go_wp2_with fail
    refine (new_st 20 (by omega) 20 rfl w).mono ?_
    rintro e w1 ⟨g, rfl, h1⟩
    have H1 := Lib.hid h1
    clear h1
    go_wp2_with fail
    refine (put_st H1.out 2 18 (by decide) (by decide) S HN.out.1 _ rfl HA.out.1 HM.out.1 (by have := HN.out.2.2.1; omega) (by have := HN.out.2.2.1; show 0 + a.length + 4 < _; omega) (by have := HN.out.2.2.1; show 0 + a.length + 4 < _; omega)).mono ?_
    rintro e w2 ⟨rfl, h2⟩
    have H2 := Lib.hid h2
    clear h2
    go_wp2_with fail
    refine (restart_st H2.out rfl).mono ?_
    rintro e w3 ⟨rfl, h3⟩
    have H3 := Lib.hid h3
    clear h3
    go_wp2_with fail
    refine (arm_st H3.out at_ (HA.out.2.2.below H3.out.old) (by have := HN.out.2.2.2.2; omega) rfl).mono ?_
    rintro e w4 ⟨rfl, h4⟩
    have H4 := Lib.hid h4
    clear h4
    go_wp2_with fail
    refine (put_st H4.out 2 18 (by decide) (by decide) T HN.out.2.1 _ rfl HA.out.2.1 HM.out.2.1 (by have := HN.out.2.2.2.1; omega) (by have := HN.out.2.2.2.1; rw [HM.out.2.2.1]; omega) (by have := HN.out.2.2.2.1; rw [HM.out.2.2.2.1]; simp; omega)).mono ?_
    rintro e w5 ⟨rfl, h5⟩
    have H5 := Lib.hid h5
    clear h5
    go_wp2_with fail
    refine (restart_st H5.out rfl).mono ?_
    rintro e w6 ⟨rfl, h6⟩
    have H6 := Lib.hid h6
    clear h6
    go_wp2_with fail
    refine (get_some_st H6.out 2 18 (z := (u : Int)) rfl HM.out.2.2.2.2).mono ?_
    rintro e w7 ⟨a7, c7, rfl, h7⟩
    have H7 := Lib.hid h7
    clear h7
    go_wp2_with fail
    refine (known_any _).mono ?_
    rintro e w8 ⟨rfl, hb⟩
    have HB := Lib.hid (H7.out.below hb).old
    clear hb
    go_wp2_with fail
    go_ret
    exact ⟨rfl, HB.out⟩
  · subst hu hc
    have HM := Lib.hid (And.intro k1 (And.intro k2 (And.intro k3 (And.intro k4 hg))))
    clear k1 k2 k3 k4 hg
    go_enter Try.func4, Try.ntmps4
    go_wp2_with fail
    refine (new_st 20 (by omega) 20 rfl w).mono ?_
    rintro e w1 ⟨g, rfl, h1⟩
    have H1 := Lib.hid h1
    clear h1
    go_wp2_with fail
    refine (put_st H1.out 2 18 (by decide) (by decide) S HN.out.1 _ rfl HA.out.1 HM.out.1 (by have := HN.out.2.2.1; omega) (by have := HN.out.2.2.1; show 0 + a.length + 4 < _; omega) (by have := HN.out.2.2.1; show 0 + a.length + 4 < _; omega)).mono ?_
    rintro e w2 ⟨rfl, h2⟩
    have H2 := Lib.hid h2
    clear h2
    go_wp2_with fail
    refine (restart_st H2.out rfl).mono ?_
    rintro e w3 ⟨rfl, h3⟩
    have H3 := Lib.hid h3
    clear h3
    go_wp2_with fail
    refine (arm_st H3.out at_ (HA.out.2.2.below H3.out.old) (by have := HN.out.2.2.2.2; omega) rfl).mono ?_
    rintro e w4 ⟨rfl, h4⟩
    have H4 := Lib.hid h4
    clear h4
    go_wp2_with fail
    refine (put_st H4.out 2 18 (by decide) (by decide) u HN.out.2.1 _ rfl HA.out.2.1 HM.out.2.1 (by have := HN.out.2.2.2.1; omega) (by have := HN.out.2.2.2.1; rw [HM.out.2.2.1]; omega) (by have := HN.out.2.2.2.1; rw [HM.out.2.2.2.1]; simp; omega)).mono ?_
    rintro e w5 ⟨rfl, h5⟩
    have H5 := Lib.hid h5
    clear h5
    go_wp2_with fail
    refine (restart_st H5.out rfl).mono ?_
    rintro e w6 ⟨rfl, h6⟩
    have H6 := Lib.hid h6
    clear h6
    go_wp2_with fail
    refine (get_some_st H6.out 2 18 (z := (u : Int)) rfl HM.out.2.2.2.2).mono ?_
    rintro e w7 ⟨a7, c7, rfl, h7⟩
    have H7 := Lib.hid h7
    have hcv1 := conv_any (h7.row List.mem_cons_self).row
    have hcv2 := conv_any (HA.out.2.1.below h7.old)
    rw [HSA.out] at hcv1 hcv2
    clear h7
    go_wp2_with fail
    refine (known_any _).mono ?_
    rintro e w8 ⟨rfl, hb⟩
    have HB := Lib.hid (H7.out.below hb).old
    clear hb
    go_wp2_with fail
    go_ret
    exact ⟨rfl, HB.out⟩

/-- THE LAW's WALK. -/
theorem crash_law_walk (p0 p1 p2 : Option Addr) (c0 c1 c2 : Nat) (a b : List UInt8) (l : List Int) (S T : Nat) (hS : S < 4294967296) (hT : T < 4294967296) (at_ : Int) (w : World) (hra : Row w (.slice p0 a.length c0) a) (hrb : Row w (.slice p1 b.length c1) b) (hrl : KeepsAt w (.slice p2 l.length c2) l)
    (hlm : l.length ≤ 9223372036854775807) :
    Calls Try.prog 4 #[.slice p0 a.length c0, .slice p1 b.length c1, .int .u32 (S : Int), .int .u32 (T : Int), .int .i64 at_, .slice p2 l.length c2] w fun e w' => e = .returned (.bool true) ∧ Below w.heap.size w w' := by
  by_cases h : 200 < a.length ∨ 200 < b.length ∨ S = T ∨ T = 0 ∨ 50 < l.length ∨ at_ < 0
  · have h1 := hra.length_le
    have h2 := hrb.length_le
    unfold maxLen at h1 h2
    exact crash_out p0 p1 p2 a.length c0 b.length c1 l.length c2 S T at_ w (by omega) (by omega) hlm h
  · exact crash_in p0 p1 p2 c0 c1 c2 a b l S T at_ w hra hrb hrl hS hT (by omega) (by omega) (by omega) (by omega) (by omega) (by omega)
end Go.Proofs.Ytjmhonocokjfeaa
