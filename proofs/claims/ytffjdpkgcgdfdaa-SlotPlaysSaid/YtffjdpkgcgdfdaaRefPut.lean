/-
  Proved: the statements' own package of chapter 4: head, last, Clear, Put do to their disk what its model does. Conditions: the disk lies in memory; the bytes can be read and are no part of the disk; fewer than 2^31 of them.
-/
import Derived.Test.YtffjdpkgcgdfdaaRefApi
import Derived.Test.YtffjdpkgcgdfdaaRefSum
import Derived.Test.YtffjdpkgcgdfdaaRefNeed
namespace Go.Proofs.Ytffjdpkgcgdfdaa
open Go Go.RowKit DiskMath NetMem SpanMath SumMath

theorem RStep.on {w0 : World} {D E : Nat → Prop} {w w1 w2 : World} {p : Value} {d : Dk} (hk : Kept D w w1) (hE : ∀ k, E k → D k ∨ w.heap.size ≤ k) (h : RStep w0 E w1 w2 p d) : RStep w0 D w w2 p d := by
  obtain ⟨E', hd', hk', hE'⟩ := h
  exact ⟨E', hd', hk.trans hk' hE, fun i hi => (hE' i hi).elim (hE i) fun h => .inr (Nat.le_trans hk.size h)⟩

set_option maxHeartbeats 1000000 in
theorem rlast_at {w0 w : World} {D : Nat → Prop} {p : Value} {d : Dk} (h : RefAt w0 w D p d) (at_ : Int) {v : Value} {l : List UInt8} (hr : Row w v l) (hn : d.n + 1 < 4611686018427387904) (hp : d.p.length < 4294967296) :
    Calls Try.prog 38 #[p, .int .i64 at_, v] w fun e w' => e = .returned (.int .i64 (putHead d at_ l).1) ∧ RStep w0 D w w' p (putHead d at_ l).2 := by
  have hm := write_n d at_ l
  obtain ⟨e0, d1, he⟩ : ∃ e0 d1, d.write at_ l = (e0, d1) := ⟨_, _, rfl⟩
  have hW := rwrite_at h at_ v l hr (by omega) (by omega)
  rw [he] at hm
  simp only at hm
  obtain ⟨e1, d2, he2⟩ : ∃ e1 d2, d1.flush = (e1, d2) := ⟨_, _, rfl⟩
  have hF : ∀ w1 E, RefAt w0 w1 E p d1 → Calls Try.prog 40 #[p] w1 fun e w' => e = .returned (.int .i64 e1) ∧ RStep w0 E w1 w' p d2 := fun w1 E hd => by
    have := rflush_at hd (by omega)
    rwa [he2] at this
  unfold putHead
  rw [he] at hW ⊢
  simp only at hW ⊢
  have HW := Lib.hid hW
  have HF := Lib.hid hF
  have HE2 := Lib.hid he2
  clear hW hF he hm hn hp h he2 hr
  by_cases h0 : e0 = 0
  · subst h0
    rw [if_pos rfl, HE2.out]
    go_enter Try.func38, Try.ntmps38
    go_wp2_with fail
    refine HW.out.mono ?_
    rintro e w1 ⟨rfl, D1, hd1, hk1, hD1⟩
    have H1 := Lib.hid (And.intro hd1 (And.intro hk1 hD1))
    clear hd1 hk1 hD1
    go_wp2_with fail
    refine (HF.out w1 D1 H1.out.1).mono ?_
    rintro e w2 ⟨rfl, hs⟩
    have H2 := Lib.hid (RStep.on H1.out.2.1 H1.out.2.2 hs)
    clear hs
    go_wp2_with fail
    go_ret
    exact ⟨rfl, H2.out⟩
  · have hne : (e0 != 0) = true := by simpa using h0
    rw [if_neg h0]
    clear h0
    go_enter Try.func38, Try.ntmps38
    go_wp2_with fail
    refine HW.out.mono ?_
    rintro e w1 ⟨rfl, hs⟩
    have H1 := Lib.hid hs
    clear hs
    go_wp2_with fail
    go_ret
    exact ⟨rfl, H1.out⟩

set_option maxHeartbeats 1000000 in
theorem rclear_at {w0 w : World} {D : Nat → Prop} {p : Value} {d : Dk} (h : RefAt w0 w D p d) (at_ : Int) (hn : d.n + 1 < 4611686018427387904) (hp : d.p.length < 4294967296) :
    Calls Try.prog 27 #[p, .int .i64 at_] w fun e w' => e = .returned (.int .i64 (spanClear d at_).1) ∧ RStep w0 D w w' p (spanClear d at_).2 := by
  have hmk := made16
  have hb : Below w.heap.size w (w.alloc zeroObj) := (Below.refl _ w).alloc (Nat.le_refl _) _
  have HC := Lib.hid (rlast_at (h.below hb) at_ (zeros_own w 5).row hn hp)
  have HB := Lib.hid (And.intro h hb)
  clear h hb hn hp
  go_enter Try.func27, Try.ntmps27
  go_wp2_with fail
  refine HC.out.mono ?_
  rintro e w1 ⟨rfl, hs⟩
  have H1 := Lib.hid (RStep.ahead HB.out.2 hs)
  clear hs
  go_wp2_with fail
  go_ret
  exact ⟨rfl, H1.out⟩

set_option maxHeartbeats 4000000 in
set_option maxRecDepth 100000 in
theorem rhead_any (tag : Nat) (ht : tag < 4294967296) (q : Option Addr) (c : Nat) (l : List UInt8) (w : World) (hr : Row w (.slice q l.length c) l) (hl : l.length ≤ 2147483648) :
    Calls Try.prog 41 #[.int .u32 (tag : Int), .slice q l.length c] w fun e w' => ∃ v, e = .returned v ∧ NetMem.Own w' w.heap.size v (headB tag l) ∧ Below w.heap.size w w' := by
  obtain ⟨i0, hi, hz0, hz1, hz2⟩ := info_parts infoB
  have HI := Lib.hid (And.intro hi (And.intro hz0 (And.intro hz1 hz2)))
  have HR := Lib.hid (And.intro hr (And.intro ht hl))
  have hl0 : (l.length : Int) ≤ 2147483648 := by omega
  clear hi hz0 hz1 hz2 hr ht hl
  go_enter Try.func41, Try.ntmps41
  go_wp2_with fail
  refine (reffour_any tag HR.out.2.1 w).mono ?_
  rintro e w1 ⟨v1, rfl, ho1, hb1⟩
  have H1 := Lib.hid (And.intro ho1 hb1)
  clear ho1 hb1
  go_wp2_with fail
  refine (reffour_any l.length (by have := HR.out.2.2; omega) w1).mono ?_
  rintro e w2 ⟨v2, rfl, ho2, hb2⟩
  have H2 := Lib.hid (And.intro (H1.out.1.below hb2) (And.intro (Row.src (P := Try.prog) ho2.row Try.underlying27) (H1.out.2.trans (hb2.mono H1.out.2.size))))
  clear ho2 hb2
  go_wp2_with (at_builtin; refine wpList_append_bytes _ rfl _ _ 27 27 rfl 5 i0 Try.underlying27 HI.out.1 HI.out.2.1 HI.out.2.2.1 HI.out.2.2.2 w.heap.size _ _ rfl H2.out.1 _ _ rfl H2.out.2.1 (by rw [fourB_length, fourB_length]; omega) H2.out.2.2.size ?_)
  intro v3 w3 ho3 hg3 hnil
  have H3 := Lib.hid (And.intro ho3 (H2.out.2.2.grown hg3 H2.out.2.2.size (fun k hk => (H2.out.1.lt k hk).1)))
  clear ho3 hg3 hnil
  go_wp2_with fail
  refine (refof_any q c l w3 (HR.out.1.below H3.out.2)).mono ?_
  rintro e w4 ⟨rfl, rfl⟩
  go_wp2_with fail
  refine (reffour_any (sumOf l) (sumOf_lt l) w3).mono ?_
  rintro e w4 ⟨v4, rfl, ho4, hb4⟩
  have H4 := Lib.hid (And.intro (H3.out.1.below hb4) (And.intro (Row.src (P := Try.prog) ho4.row Try.underlying27) (H3.out.2.trans (hb4.mono H3.out.2.size))))
  clear ho4 hb4
  go_wp2_with (at_builtin; refine wpList_append_bytes _ rfl _ _ 27 27 rfl 5 i0 Try.underlying27 HI.out.1 HI.out.2.1 HI.out.2.2.1 HI.out.2.2.2 w.heap.size _ _ rfl H4.out.1 _ _ rfl H4.out.2.1 (by simp [fourB_length]) H4.out.2.2.size ?_)
  intro v5 w5 ho5 hg5 hnil
  have H5 := Lib.hid (And.intro ho5 (H4.out.2.2.grown hg5 H4.out.2.2.size (fun k hk => (H4.out.1.lt k hk).1)))
  clear ho5 hg5 hnil
  go_wp2_with fail
  refine (reffour_any tag HR.out.2.1 w5).mono ?_
  rintro e w6 ⟨v6, rfl, ho6, hb6⟩
  have H6 := Lib.hid (And.intro (H5.out.1.below hb6) (And.intro (Row.src (P := Try.prog) ho6.row Try.underlying27) (H5.out.2.trans (hb6.mono H5.out.2.size))))
  clear ho6 hb6
  go_wp2_with (at_builtin; refine wpList_append_bytes _ rfl _ _ 27 27 rfl 5 i0 Try.underlying27 HI.out.1 HI.out.2.1 HI.out.2.2.1 HI.out.2.2.2 w.heap.size _ _ rfl H6.out.1 _ _ rfl H6.out.2.1 (by simp [fourB_length]) H6.out.2.2.size ?_)
  intro v7 w7 ho7 hg7 hnil
  have H7 := Lib.hid (And.intro ho7 (H6.out.2.2.grown hg7 H6.out.2.2.size (fun k hk => (H6.out.1.lt k hk).1)))
  clear ho7 hg7 hnil
  go_wp2_with fail
  go_ret
  exact ⟨_, rfl, H7.out.1, H7.out.2⟩
end Go.Proofs.Ytffjdpkgcgdfdaa
