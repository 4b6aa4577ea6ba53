/-
  Proved: texts joined: Proved: the statements' own package of chapter 2: a row's sum; four bytes of a number, a number of four bytes; it changes nothing. Conditions: the row can be read; numbers below 2^32.
  Proved: how many sectors a span needs, in the statements' own package. Conditions: the number is an int.
  Proved: the statements' own package of chapter 4: head, last, Clear, Put do to their disk what its model does. Conditions: the disk lies in memory; the bytes can be read and are no part of the disk; fewer than 2^31 of them.
  Proved: the statements' own package of chapter 4: Put does to their disk what its model does. Conditions: the disk lies in memory; the bytes can be read and are no part of the disk; fewer than 2^31 of them.
  Proved: the statements' own package of chapter 4: Get answers what its model does, in new memory. No conditions but the disk's.
-/
import Derived.Test.YtilplpjdbkipoaaGreatDoorSumB
import Derived.Test.YtilplpjdbkipoaaGreatDoorSpanGet
import Derived.Test.YtilplpjdbkipoaaGreatDoorSpanNeed
import Derived.Test.YtilplpjdbkipoaaGreatDoorRefApi
import Derived.Deep.QuietTactic
namespace Go.Proofs.YtilplpjdbkipoaaGreatDoor
open Go Go.RowKit SumMath NetMem

def RelE2 (x : Nat) (w : World) (v i : Value) (wr : World) : Prop :=
  ∃ k y : Nat, k ≤ 8 ∧ y < 4294967296 ∧ v = .int .u32 (y : Int) ∧ i = .int .i64 (k : Int) ∧ tapN (8 - k) y = tapN 8 x ∧ w = wr
theorem xor_ones (x : Nat) (hx : x < 4294967296) : bits .xor .u32 4294967295 (x : Int) = ((x ^^^ ones : Nat) : Int) := by
  rw [Nat.xor_comm]
  exact xor32 ones x (by decide) hx
theorem last_bit (y : Nat) (hy : y < 4294967296) : bits .and .u32 (y : Int) 1 = ((y % 2 : Nat) : Int) := by
  have := u32_and_nat y 1 hy (by decide)
  rw [nat_mask1] at this
  rw [← this]
  rfl

set_option maxHeartbeats 2000000 in
set_option maxRecDepth 100000 in
theorem refof_any (p : Option Addr) (c : Nat) (l : List UInt8) (w : World) (h : Row w (.slice p l.length c) l) :
    Calls Tryz.prog 57 #[.slice p l.length c] w fun e w' => e = .returned (.int .u32 (sumOf l : Nat)) ∧ w = w' := by
  obtain ⟨-, h1, h2, hcc⟩ := Row.nums h
  have HC := Lib.hid hcc
  have HM : l.length ≤ 9223372036854775807 := by unfold maxLen at h2; omega
  clear h h2 hcc
  go_enter Tryz.func57, Tryz.ntmps57
  go_wp2_with fail
  go_loopw [3, 4] (fun v i wr => RelI ones l w v i wr) (fun _ i _ => l.length - (intOf i).toNat)
  case atStart => exact ⟨0, by omega, rfl, rfl, rfl⟩
  case round =>
    obtain ⟨j, hj, rfl, rfl, rfl⟩ := hrel
    have hy0 : sumL ones (l.take j) < 4294967296 := sumL_lt _ (by decide)
    by_cases hjt : j < l.length
    · obtain ⟨x0, hx⟩ : ∃ x0, x0 = sumL ones (l.take j) := ⟨_, rfl⟩
      rw [← hx] at hy0 ⊢
      have HX := Lib.hid hx
      clear hx
      obtain ⟨b2, o2, hq, hcell⟩ := HC.out (by omega)
      subst hq
      have hcj := hcell j hjt
      obtain ⟨d, hd⟩ : ∃ d, d = l[j] := ⟨_, rfl⟩
      rw [← hd] at hcj
      have hdl := d.toNat_lt
      have HD := Lib.hid hd
      have hxe := xor32 x0 d.toNat hy0 (byte_lt d)
      have hxl := xor_lt hy0 (byte_lt d)
      clear hd hcell
      go_wp2_with fail
      obtain ⟨z, hz⟩ : ∃ z, z = x0 ^^^ d.toNat := ⟨_, rfl⟩
      rw [← hz] at hxl ⊢
      have HZ := Lib.hid hz
      clear hz hxe
      go_loopw [3, 5] (fun v i wr => RelE2 z w v i wr) (fun _ i _ => 8 - (intOf i).toNat)
      case atStart => exact ⟨0, z, by omega, hxl, rfl, rfl, rfl, rfl⟩
      case round =>
        obtain ⟨k, y, hk, hy, rfl, rfl, hs, rfl⟩ := hrel
        have hlb := last_bit y hy
        by_cases hlt : k < 8
        · by_cases hodd : y % 2 = 1
          · have h1 : (bits .and .u32 (y : Int) 1 == 1) = true := by rw [hlb, hodd]; rfl
            clear hlb
            go_wp2_with fail
            exact ⟨⟨k + 1, _, by omega, tapT_lt hy, by rw [half_xor y hy, odd_step hodd], by go_num, by rw [step_on hlt, hs], rfl⟩, by simp [intOf]; omega⟩
          · have h1 : (bits .and .u32 (y : Int) 1 == 1) = false := by rw [hlb, show y % 2 = 0 by omega]; rfl
            clear hlb
            go_wp2_with fail
            exact ⟨⟨k + 1, _, by omega, tapT_lt hy, by rw [even_step hodd]; go_num, by go_num, by rw [step_on hlt, hs], rfl⟩, by simp [intOf]; omega⟩
        · obtain rfl : k = 8 := by omega
          clear hlb
          go_wp2_with fail
          refine ⟨⟨j + 1, by omega, ?_, by go_num, rfl⟩, by simp [intOf]; omega⟩
          rw [sumL_take ones l j hjt, ← HD.out, ← HX.out, show tapB x0 d = tapN 8 z by rw [HZ.out]; rfl, ← hs]
          rfl
    · obtain rfl : j = l.length := by omega
      rw [List.take_length] at hy0 ⊢
      go_wp2_with fail
      go_ret
      exact ⟨by rw [show IntKind.u32.max = (4294967295 : Int) from rfl, xor_ones _ hy0]; rfl, rfl⟩

set_option maxHeartbeats 2000000 in
set_option maxRecDepth 100000 in
theorem reffour_any (n : Nat) (hn : n < 4294967296) (w : World) :
    Calls Tryz.prog 73 #[.int .u32 (n : Int)] w fun e w' => ∃ v, e = .returned v ∧ NetMem.Own w' w.heap.size v (fourB n) ∧ Below w.heap.size w w' := by
  go_enter Tryz.func73, Tryz.ntmps73
  go_wp2_with fail
  go_ret
  refine ⟨_, rfl, ?_, (Below.refl _ w).alloc (Nat.le_refl _) _⟩
  have hc := four_cells n hn
  exact NetMem.Own.made w 5 (fourB n) 4 (Nat.le_refl 4) (by simp [maxLen]) _ rfl (fun j h => by
    rw [hc]
    have := bc_at (fourB n) j h
    simpa using this) w.heap.size (Nat.le_refl _)

theorem refget_few (p : Option Addr) (n c : Nat) (w : World) (h : n < 4) :
    Calls Tryz.prog 56 #[.slice p n c] w fun e w' => e = .returned (.int .u32 0) ∧ w = w' := by
  go_enter Tryz.func56, Tryz.ntmps56
  go_wp2_with fail
  go_ret
  exact ⟨rfl, rfl⟩

set_option maxHeartbeats 2000000 in
set_option maxRecDepth 100000 in
theorem refget_q (b o n c : Nat) (l : List UInt8) (w : World) (h : Row w (.slice (some ⟨b, o, none⟩) n c) l) (h4 : 4 ≤ l.length) :
    Calls Tryz.prog 56 #[.slice (some ⟨b, o, none⟩) n c] w fun e w' => e = .returned (.int .u32 (getB l : Nat)) ∧ ∃ m, w' = w.drewN m := by
  obtain ⟨rfl, h1, h2, -⟩ := Row.nums h
  have hc := Row.range h (by omega)
  unfold maxLen at h2
  obtain ⟨c0, c1, c2, c3, r, rfl⟩ : ∃ c0 c1 c2 c3 r, l = c0 :: c1 :: c2 :: c3 :: r := by
    match l, h4 with
    | c0 :: c1 :: c2 :: c3 :: r, _ => exact ⟨c0, c1, c2, c3, r, rfl⟩
  have d0 := hc 0 (by simp)
  have d1 := hc 1 (by simp)
  have d2 := hc 2 (by simp)
  have d3 := hc 3 (by simp)
  simp only [List.getElem_cons_zero, List.getElem_cons_succ, Nat.add_zero] at d0 d1 d2 d3
  obtain ⟨n, hn⟩ : ∃ n, n = (c0 :: c1 :: c2 :: c3 :: r).length := ⟨_, rfl⟩
  rw [← hn] at h1 h4 ⊢
  have b0 := c0.toNat_lt
  have b1 := c1.toNat_lt
  have b2 := c2.toNat_lt
  have b3 := c3.toNat_lt
  clear hc hn h
  go_enter Tryz.func56, Tryz.ntmps56
  go_wp2_with fail
  go_quiet (fail)
  go_wp2
  go_ret
  exact ⟨by rw [four_join]; rfl, _, rfl⟩
end Go.Proofs.YtilplpjdbkipoaaGreatDoor

namespace Go.Proofs.YtilplpjdbkipoaaGreatDoor
open Go Go.RowKit SpanMath

theorem refneed_neg (n : Int) (w : World) (h : n < 0) :
    Calls Tryz.prog 29 #[.int .i64 n] w fun e w' => e = .returned (.int .i64 0) ∧ w = w' := by
  go_enter Tryz.func29, Tryz.ntmps29
  go_wp2_with fail
  go_ret
  exact ⟨rfl, rfl⟩

theorem refneed_any (n : Nat) (w : World) (h : n ≤ 9223372036854775807) :
    Calls Tryz.prog 29 #[.int .i64 (n : Int)] w fun e w' => e = .returned (.int .i64 (need n : Nat)) ∧ w = w' := by
  have h0 : (0 : Int) ≤ (n : Int) := by omega
  have h1 : (n : Int) ≤ 9223372036854775807 := by omega
  by_cases hz : n % 16 = 0
  · have hb : (((n : Int) % 16) != 0) = false := by simp; omega
    have HZ := Lib.hid hz
    clear h hz
    go_enter Tryz.func29, Tryz.ntmps29
    go_wp2_with fail
    go_ret
    exact ⟨ret_int (by rw [need_eq, HZ.out]; omega), rfl⟩
  · have hb : (((n : Int) % 16) != 0) = true := by simp; omega
    have HZ := Lib.hid (show min (n % 16) 1 = 1 by omega)
    clear h hz
    go_enter Tryz.func29, Tryz.ntmps29
    go_wp2_with fail
    go_ret
    exact ⟨ret_int (by rw [need_eq, HZ.out]; omega), rfl⟩
end Go.Proofs.YtilplpjdbkipoaaGreatDoor

namespace Go.Proofs.YtilplpjdbkipoaaGreatDoor
open Go Go.RowKit DiskMath NetMem SpanMath SumMath

theorem RStep.on {w0 : World} {D E : Nat → Prop} {w w1 w2 : World} {p : Value} {d : Dk} (hk : Kept D w w1) (hE : ∀ k, E k → D k ∨ w.heap.size ≤ k) (h : RStep w0 E w1 w2 p d) : RStep w0 D w w2 p d := by
  obtain ⟨E', hd', hk', hE'⟩ := h
  exact ⟨E', hd', hk.trans hk' hE, fun i hi => (hE' i hi).elim (hE i) fun h => .inr (Nat.le_trans hk.size h)⟩

set_option maxHeartbeats 1000000 in
theorem rlast_at {w0 w : World} {D : Nat → Prop} {p : Value} {d : Dk} (h : RefAt w0 w D p d) (at_ : Int) {v : Value} {l : List UInt8} (hr : Row w v l) (hn : d.n + 1 < 4611686018427387904) (hp : d.p.length < 4294967296) :
    Calls Tryz.prog 50 #[p, .int .i64 at_, v] w fun e w' => e = .returned (.int .i64 (putHead d at_ l).1) ∧ RStep w0 D w w' p (putHead d at_ l).2 := by
  have hm := write_n d at_ l
  obtain ⟨e0, d1, he⟩ : ∃ e0 d1, d.write at_ l = (e0, d1) := ⟨_, _, rfl⟩
  have hW := rwrite_at h at_ v l hr (by omega) (by omega)
  rw [he] at hm
  simp only at hm
  obtain ⟨e1, d2, he2⟩ : ∃ e1 d2, d1.flush = (e1, d2) := ⟨_, _, rfl⟩
  have hF : ∀ w1 E, RefAt w0 w1 E p d1 → Calls Tryz.prog 52 #[p] w1 fun e w' => e = .returned (.int .i64 e1) ∧ RStep w0 E w1 w' p d2 := fun w1 E hd => by
    have := rflush_at hd (by omega)
    rwa [he2] at this
  unfold putHead
  rw [he] at hW ⊢
  simp only at hW ⊢
  have HW := Lib.hid hW
  have HF := Lib.hid hF
  have HE2 := Lib.hid he2
  clear hW hF he hm hn hp h he2 hr
  by_cases h0 : e0 = 0
  · subst h0
    rw [if_pos rfl, HE2.out]
    go_enter Tryz.func50, Tryz.ntmps50
    go_wp2_with fail
    refine HW.out.mono ?_
    rintro e w1 ⟨rfl, D1, hd1, hk1, hD1⟩
    have H1 := Lib.hid (And.intro hd1 (And.intro hk1 hD1))
    clear hd1 hk1 hD1
    go_wp2_with fail
    refine (HF.out w1 D1 H1.out.1).mono ?_
    rintro e w2 ⟨rfl, hs⟩
    have H2 := Lib.hid (RStep.on H1.out.2.1 H1.out.2.2 hs)
    clear hs
    go_wp2_with fail
    go_ret
    exact ⟨rfl, H2.out⟩
  · have hne : (e0 != 0) = true := by simpa using h0
    rw [if_neg h0]
    clear h0
    go_enter Tryz.func50, Tryz.ntmps50
    go_wp2_with fail
    refine HW.out.mono ?_
    rintro e w1 ⟨rfl, hs⟩
    have H1 := Lib.hid hs
    clear hs
    go_wp2_with fail
    go_ret
    exact ⟨rfl, H1.out⟩

set_option maxHeartbeats 1000000 in
theorem rclear_at {w0 w : World} {D : Nat → Prop} {p : Value} {d : Dk} (h : RefAt w0 w D p d) (at_ : Int) (hn : d.n + 1 < 4611686018427387904) (hp : d.p.length < 4294967296) :
    Calls Tryz.prog 30 #[p, .int .i64 at_] w fun e w' => e = .returned (.int .i64 (spanClear d at_).1) ∧ RStep w0 D w w' p (spanClear d at_).2 := by
  have hmk := made16
  have hb : Below w.heap.size w (w.alloc zeroObj) := (Below.refl _ w).alloc (Nat.le_refl _) _
  have HC := Lib.hid (rlast_at (h.below hb) at_ (zeros_own w 5).row hn hp)
  have HB := Lib.hid (And.intro h hb)
  clear h hb hn hp
  go_enter Tryz.func30, Tryz.ntmps30
  go_wp2_with fail
  refine HC.out.mono ?_
  rintro e w1 ⟨rfl, hs⟩
  have H1 := Lib.hid (RStep.ahead HB.out.2 hs)
  clear hs
  go_wp2_with fail
  go_ret
  exact ⟨rfl, H1.out⟩

set_option maxHeartbeats 4000000 in
set_option maxRecDepth 100000 in
theorem rhead_any (tag : Nat) (ht : tag < 4294967296) (q : Option Addr) (c : Nat) (l : List UInt8) (w : World) (hr : Row w (.slice q l.length c) l) (hl : l.length ≤ 2147483648) :
    Calls Tryz.prog 53 #[.int .u32 (tag : Int), .slice q l.length c] w fun e w' => ∃ v, e = .returned v ∧ NetMem.Own w' w.heap.size v (headB tag l) ∧ Below w.heap.size w w' := by
  obtain ⟨i0, hi, hz0, hz1, hz2⟩ := info_parts infoB
  have HI := Lib.hid (And.intro hi (And.intro hz0 (And.intro hz1 hz2)))
  have HR := Lib.hid (And.intro hr (And.intro ht hl))
  have hl0 : (l.length : Int) ≤ 2147483648 := by omega
  clear hi hz0 hz1 hz2 hr ht hl
  go_enter Tryz.func53, Tryz.ntmps53
  go_wp2_with fail
  refine (reffour_any tag HR.out.2.1 w).mono ?_
  rintro e w1 ⟨v1, rfl, ho1, hb1⟩
  have H1 := Lib.hid (And.intro ho1 hb1)
  clear ho1 hb1
  go_wp2_with fail
  refine (reffour_any l.length (by have := HR.out.2.2; omega) w1).mono ?_
  rintro e w2 ⟨v2, rfl, ho2, hb2⟩
  have H2 := Lib.hid (And.intro (H1.out.1.below hb2) (And.intro (Row.src (P := Tryz.prog) ho2.row Tryz.underlying56) (H1.out.2.trans (hb2.mono H1.out.2.size))))
  clear ho2 hb2
  go_wp2_with (at_builtin; refine wpList_append_bytes _ rfl _ _ 56 56 rfl 5 i0 Tryz.underlying56 HI.out.1 HI.out.2.1 HI.out.2.2.1 HI.out.2.2.2 w.heap.size _ _ rfl H2.out.1 _ _ rfl H2.out.2.1 (by rw [fourB_length, fourB_length]; omega) H2.out.2.2.size ?_)
  intro v3 w3 ho3 hg3 hnil
  have H3 := Lib.hid (And.intro ho3 (H2.out.2.2.grown hg3 H2.out.2.2.size (fun k hk => (H2.out.1.lt k hk).1)))
  clear ho3 hg3 hnil
  go_wp2_with fail
  refine (refof_any q c l w3 (HR.out.1.below H3.out.2)).mono ?_
  rintro e w4 ⟨rfl, rfl⟩
  go_wp2_with fail
  refine (reffour_any (sumOf l) (sumOf_lt l) w3).mono ?_
  rintro e w4 ⟨v4, rfl, ho4, hb4⟩
  have H4 := Lib.hid (And.intro (H3.out.1.below hb4) (And.intro (Row.src (P := Tryz.prog) ho4.row Tryz.underlying56) (H3.out.2.trans (hb4.mono H3.out.2.size))))
  clear ho4 hb4
  go_wp2_with (at_builtin; refine wpList_append_bytes _ rfl _ _ 56 56 rfl 5 i0 Tryz.underlying56 HI.out.1 HI.out.2.1 HI.out.2.2.1 HI.out.2.2.2 w.heap.size _ _ rfl H4.out.1 _ _ rfl H4.out.2.1 (by simp [fourB_length]) H4.out.2.2.size ?_)
  intro v5 w5 ho5 hg5 hnil
  have H5 := Lib.hid (And.intro ho5 (H4.out.2.2.grown hg5 H4.out.2.2.size (fun k hk => (H4.out.1.lt k hk).1)))
  clear ho5 hg5 hnil
  go_wp2_with fail
  refine (reffour_any tag HR.out.2.1 w5).mono ?_
  rintro e w6 ⟨v6, rfl, ho6, hb6⟩
  have H6 := Lib.hid (And.intro (H5.out.1.below hb6) (And.intro (Row.src (P := Tryz.prog) ho6.row Tryz.underlying56) (H5.out.2.trans (hb6.mono H5.out.2.size))))
  clear ho6 hb6
  go_wp2_with (at_builtin; refine wpList_append_bytes _ rfl _ _ 56 56 rfl 5 i0 Tryz.underlying56 HI.out.1 HI.out.2.1 HI.out.2.2.1 HI.out.2.2.2 w.heap.size _ _ rfl H6.out.1 _ _ rfl H6.out.2.1 (by simp [fourB_length]) H6.out.2.2.size ?_)
  intro v7 w7 ho7 hg7 hnil
  have H7 := Lib.hid (And.intro ho7 (H6.out.2.2.grown hg7 H6.out.2.2.size (fun k hk => (H6.out.1.lt k hk).1)))
  clear ho7 hg7 hnil
  go_wp2_with fail
  go_ret
  exact ⟨_, rfl, H7.out.1, H7.out.2⟩
end Go.Proofs.YtilplpjdbkipoaaGreatDoor

namespace Go.Proofs.YtilplpjdbkipoaaGreatDoor
open Go Go.RowKit DiskMath NetMem SpanMath SumMath

def RelRP (w0 : World) (D : Nat → Prop) (p : Value) (d : Dk) (at_ : Int) (l : List UInt8) (w : World) (i : Value) (wr : World) : Prop :=
  ∃ (k M : Nat) (dk : Dk), k ≤ cnt l.length ∧ M = 16 * k ∧ i = .int .i64 (M : Int) ∧ putRows at_ ((rowsOf l).take k) d = (0, dk) ∧ RStep w0 D w wr p dk

set_option maxHeartbeats 4000000 in
set_option maxRecDepth 100000 in
theorem rput_at {w0 w : World} {D : Nat → Prop} {p : Value} {d : Dk} (h : RefAt w0 w D p d) (at_ room : Int) (ha : -9223372036854775808 ≤ at_) (hb : at_ ≤ 4611686018427387904) (tag : Nat) (ht : tag < 4294967296) (q : Option Addr) (c : Nat) (l : List UInt8) (hr : RowO w D (.slice q l.length c) l)
    (hl : l.length ≤ 2147483648) (hn : d.n + l.length + 4 < 4611686018427387904) (hp : d.p.length + l.length + 4 < 4294967296) :
    Calls Tryz.prog 31 #[p, .int .i64 at_, .int .i64 room, .int .u32 (tag : Int), .slice q l.length c] w fun e w' => e = .returned (.int .i64 (spanPut d at_ room tag l).1) ∧ RStep w0 D w w' p (spanPut d at_ room tag l).2 := by
  have HN := Lib.hid (refneed_any l.length w (by omega))
  have hl0 : (l.length : Int) ≤ 2147483648 := by omega
  by_cases hroom : room < (need l.length : Int)
  · rw [put_full d at_ room tag l hroom]
    have HS := Lib.hid (RStep.same h)
    clear h hr hl hn hp ha hb ht
    go_enter Tryz.func31, Tryz.ntmps31
    go_wp2_with fail
    refine HN.out.mono ?_
    rintro e w1 ⟨rfl, rfl⟩
    go_wp2_with fail
    go_ret
    exact ⟨rfl, HS.out⟩
  · have hmk := made16
    have hroom' : (need l.length : Int) ≤ room := by omega
    have HM := Lib.hid (show spanPut d at_ room tag l = if (putRows at_ (rowsOf l) d).1 ≠ 0 then putRows at_ (rowsOf l) d else if (putRows at_ (rowsOf l) d).2.flush.1 ≠ 0 then (putRows at_ (rowsOf l) d).2.flush else putHead (putRows at_ (rowsOf l) d).2.flush.2 at_ (headB tag l) from by unfold spanPut; rw [if_neg hroom])
    have HH := Lib.hid (And.intro h (And.intro hr (And.intro hn (And.intro hp (And.intro ht hl)))))
    clear h hr hl hn hp ht hroom
    go_enter Tryz.func31, Tryz.ntmps31
    go_wp2_with fail
    refine HN.out.mono ?_
    rintro e w1 ⟨rfl, rfl⟩
    go_wp2_with fail
    clear hroom'
    go_loopw [11] (fun i wr => RelRP w0 D p d at_ l w i wr) (fun i _ => l.length - (intOf i).toNat)
    case atStart => exact ⟨0, 0, d, by omega, rfl, rfl, rfl, RStep.same HH.out.1⟩
    case round =>
      obtain ⟨k, M, dk, hk, hM, rfl, hpr, hst⟩ := hrel
      have hrn := putRows_n ((rowsOf l).take k) at_ d
      rw [hpr] at hrn
      have htl : ((rowsOf l).take k).length = k := by rw [List.length_take, rowsOf_length]; omega
      rw [htl] at hrn
      have hcs := cnt_self l.length
      by_cases hlt : k < cnt l.length
      · have hml : M < l.length := by rw [hM]; exact (cnt_lt _ _).1 hlt
        have hsnoc : (rowsOf l).take (k + 1) = (rowsOf l).take k ++ [chunk l k] := by
          rw [List.take_succ_eq_append_getElem (by rw [rowsOf_length]; exact hlt), rowsOf_at]
        have hnext := putRows_snoc ((rowsOf l).take k) at_ (chunk l k) d
        rw [← hsnoc, hpr, htl] at hnext
        simp only [if_pos] at hnext
        obtain ⟨e1, d1, hwr⟩ : ∃ e1 d1, dk.write (at_ + (k : Int) + 1) (chunk l k) = (e1, d1) := ⟨_, _, rfl⟩
        rw [hwr] at hnext
        obtain ⟨bb, o, rfl, hrow⟩ : ∃ b o, q = some ⟨b, o, none⟩ ∧ ∀ i (h : i < l.length), w.cell? ⟨b, o + i, none⟩ = some (.int .u8 (l[i].toNat : Int)) := by
          obtain ⟨-, h1, -, h3⟩ := Row.nums HH.out.2.1.1
          exact h3 (by omega)
        obtain ⟨-, hlc, hcm, -⟩ := Row.nums HH.out.2.1.1
        have hq16 : (M : Int) / 16 = (k : Int) := by omega
        have m0 : (0 : Int) ≤ (M : Int) := by omega
        have m1 : (M : Int) < (l.length : Int) := by omega
        have m2 : (M : Int) ≤ (l.length : Int) := by omega
        have k0 : (0 : Int) ≤ (k : Int) := by omega
        have k1 : (k : Int) ≤ 2147483648 := by have := HH.out.2.2.2.2.2; omega
        have c1 : (l.length : Int) ≤ (c : Int) := by omega
        have HI := Lib.hid (And.intro Tryz.underlying56 sizeByte)
        have hrowr : ∀ i (h : i < l.length), wr.cell? ⟨bb, o + i, none⟩ = some (.int .u8 (l[i].toNat : Int)) := by
          obtain ⟨E, hd, hkp, hE⟩ := hst
          intro i hi
          have := (HH.out.2.1.step hkp hE).1
          obtain ⟨-, h1, -, h3⟩ := Row.nums this
          obtain ⟨b', o', hv, hc⟩ := h3 (by omega)
          simp only [Option.some.injEq, Addr.mk.injEq] at hv
          obtain ⟨rfl, rfl, -⟩ := hv
          exact hc i hi
        have HC := Lib.hid (And.intro (show (Lib.byteCells ((l.drop M).take 16)).length = Nat.min (l.length - M) 16 from by rw [bl, List.length_take, List.length_drop]; show min 16 _ = min _ 16; omega)
          (And.intro (show ∀ j v, (Lib.byteCells ((l.drop M).take 16))[j]? = some v → (wr.alloc zeroObj).cell? ((⟨bb, o + M, none⟩ : Addr).add j) = some v from fun j v hv => by
            have hj : j < ((l.drop M).take 16).length := by have := (List.getElem?_eq_some_iff.1 hv).1; rwa [bl] at this
            rw [bc_at _ j hj] at hv
            rw [List.length_take, List.length_drop] at hj
            rw [Lib.add_plain, ← hv]
            have h1 := hrowr (M + j) (by omega)
            rw [← Nat.add_assoc] at h1
            rw [World.cell?_alloc_lt _ _ _ (World.block_lt_of_cell? wr _ h1), h1]
            simp [List.getElem_take, List.getElem_drop])
          (And.intro (show (wr.alloc zeroObj).there wr.heap.size 0 (Lib.byteCells ((l.drop M).take 16)).length from fun j hj => by
            rw [bl, List.length_take] at hj
            rw [Nat.zero_add, new_cell, new_free, zeroCells_eq]
            refine ⟨?_, rfl⟩
            have : j < (Lib.byteCells zeroB).length := by rw [bl]; show j < 16; omega
            simp [this]) (show ∀ v ∈ Lib.byteCells ((l.drop M).take 16), v.oneCell' = true from oneCell_bytes _))))
        obtain ⟨W1, hW1⟩ : ∃ W1, W1 = (wr.alloc zeroObj).setCells wr.heap.size 0 (Lib.byteCells ((l.drop M).take 16)) := ⟨_, rfl⟩
        have hWb : Below wr.heap.size wr W1 := by
          rw [hW1]
          exact (((Kept.refl (fun _ => False) wr).alloc _).setCells (.inr (Nat.le_refl _)) _ _).below (fun _ h => h.elim) (Nat.le_refl _)
        have hpad : NetMem.Own W1 wr.heap.size (.slice (some ⟨wr.heap.size, 0, none⟩) 16 16) (chunk l k) := by
          have := padded_own wr 5 (l.drop M)
          rw [zeros16] at this
          rw [hW1]
          unfold chunk
          rw [← hM]
          exact this
        have hst1 := hst.below hWb
        have HW := Lib.hid (show Calls Tryz.prog 51 #[p, .int .i64 (at_ + 1 + (k : Int)), .slice (some ⟨wr.heap.size, 0, none⟩) 16 16] W1 fun e w' => e = .returned (.int .i64 e1) ∧ RStep w0 D w w' p d1 from by
          obtain ⟨E, hd, hkp, hE⟩ := hst1
          have := rwrite_at hd (at_ + 1 + (k : Int)) _ _ hpad.row (by have := HH.out.2.2.1; simp only at hrn; omega) (by have := HH.out.2.2.2.1; simp only at hrn; omega)
          rw [show at_ + 1 + (k : Int) = at_ + (k : Int) + 1 by omega, hwr] at this
          rw [show at_ + 1 + (k : Int) = at_ + (k : Int) + 1 by omega]
          exact this.mono fun e w' ⟨h1, h2⟩ => ⟨h1, RStep.on hkp hE h2⟩)
        have HX := Lib.hid (And.intro hnext (And.intro hM hlt))
        have HWW := Lib.hid hW1
        clear hrow hrowr hpr hst hrn htl hcs hsnoc hwr hpad hWb hst1 hW1 hml hlc hcm hM hlt
        go_wp2_with (refine wpList_copy_cells (by rfl) (.tmp 27) (.tmp 30) 56 56 (by rfl) 5 HI.out.1 HI.out.2 wr.heap.size 0 16 16 ⟨bb, o + M, none⟩ (l.length - M) (c - M) (by rfl) (by rfl) (Lib.byteCells ((l.drop M).take 16)) HC.out.1 HC.out.2.1 HC.out.2.2.1 HC.out.2.2.2 ?_)
        rw [← HWW.out]
        by_cases h0 : e1 = 0
        · subst h0
          refine HW.out.mono ?_
          rintro e w2 ⟨rfl, hs⟩
          have H2 := Lib.hid hs
          clear hs
          go_wp2_with fail
          refine ⟨⟨k + 1, M + 16, d1, HX.out.2.2, by have := HX.out.2.1; omega, by go_num, HX.out.1, H2.out⟩, by simp [intOf]; omega⟩
        · have h0b : (e1 != 0) = true := by simpa using h0
          have hstop := putRows_stop ((rowsOf l).take (k + 1)) ((rowsOf l).drop (k + 1)) at_ d (by rw [HX.out.1]; exact h0)
          rw [List.take_append_drop, HX.out.1] at hstop
          have HE := Lib.hid (show spanPut d at_ room tag l = (e1, d1) from by rw [HM.out, hstop]; exact if_pos h0)
          clear h0 hstop
          refine HW.out.mono ?_
          rintro e w2 ⟨rfl, hs⟩
          have H2 := Lib.hid hs
          clear hs
          go_wp2_with fail
          go_ret
          rw [HE.out]
          exact ⟨rfl, H2.out⟩
      · obtain rfl : k = cnt l.length := by omega
        have hall : (rowsOf l).take (cnt l.length) = rowsOf l := List.take_of_length_le (by rw [rowsOf_length]; omega)
        rw [hall] at hpr
        have hle := cnt_le l.length
        have m2 : (l.length : Int) ≤ (M : Int) := by omega
        have hfn := flush_n dk
        obtain ⟨e1, d1, hf⟩ : ∃ e1 d1, dk.flush = (e1, d1) := ⟨_, _, rfl⟩
        rw [hf] at hfn
        simp only at hrn hfn
        have HF := Lib.hid (show Calls Tryz.prog 52 #[p] wr fun e w' => e = .returned (.int .i64 e1) ∧ RStep w0 D w w' p d1 from by
          obtain ⟨E, hd, hkp, hE⟩ := hst
          have := rflush_at hd (by have := HH.out.2.2.1; omega)
          rw [hf] at this
          exact this.mono fun e w' ⟨h1, h2⟩ => ⟨h1, RStep.on hkp hE h2⟩)
        by_cases h0 : e1 = 0
        · subst h0
          have HE := Lib.hid (show spanPut d at_ room tag l = putHead d1 at_ (headB tag l) from by rw [HM.out, hpr]; simp only [hf]; simp)
          have HD := Lib.hid (show ∀ w2, RStep w0 D w w2 p d1 → Calls Tryz.prog 53 #[.int .u32 (tag : Int), .slice q l.length c] w2 fun e w' => ∃ v, e = .returned v ∧ (NetMem.Own w' w2.heap.size v (headB tag l) ∧ Below w2.heap.size w2 w') from fun w2 hs => by
            obtain ⟨E, hd, hkp, hE⟩ := hs
            exact rhead_any tag HH.out.2.2.2.2.1 q c l w2 (HH.out.2.1.step hkp hE).1 HH.out.2.2.2.2.2)
          have HL := Lib.hid (show ∀ w3 v, RStep w0 D w w3 p d1 → Row w3 v (headB tag l) → Calls Tryz.prog 50 #[p, .int .i64 at_, v] w3 fun e w' => e = .returned (.int .i64 (putHead d1 at_ (headB tag l)).1) ∧ RStep w0 D w w' p (putHead d1 at_ (headB tag l)).2 from fun w3 v hs hv => by
            obtain ⟨E, hd, hkp, hE⟩ := hs
            exact (rlast_at hd at_ hv (by have := HH.out.2.2.1; omega) (by have := HH.out.2.2.2.1; omega)).mono fun e w' ⟨h1, h2⟩ => ⟨h1, RStep.on hkp hE h2⟩)
          clear hpr hst hrn htl hcs hall hle hfn hf hlt hk hM
          go_wp2_with fail
          refine HF.out.mono ?_
          rintro e w2 ⟨rfl, hs⟩
          have H2 := Lib.hid hs
          clear hs
          go_wp2_with fail
          refine (HD.out _ H2.out).mono ?_
          rintro e w3 ⟨v3, rfl, ho3, hb3⟩
          have H3 := Lib.hid (And.intro ho3.row (H2.out.below hb3))
          clear ho3 hb3
          go_wp2_with fail
          refine (HL.out _ _ H3.out.2 H3.out.1).mono ?_
          rintro e w4 ⟨rfl, hs⟩
          have H4 := Lib.hid hs
          clear hs
          go_wp2_with fail
          go_ret
          rw [HE.out]
          exact ⟨rfl, H4.out⟩
        · have h0b : (e1 != 0) = true := by simpa using h0
          have HE := Lib.hid (show spanPut d at_ room tag l = (e1, d1) from by rw [HM.out, hpr]; simp only [hf]; simp [h0])
          clear hpr hst hrn htl hcs hall hle hfn hf hlt hk hM h0
          go_wp2_with fail
          refine HF.out.mono ?_
          rintro e w2 ⟨rfl, hs⟩
          have H2 := Lib.hid hs
          clear hs
          go_wp2_with fail
          go_ret
          rw [HE.out]
          exact ⟨rfl, H2.out⟩
end Go.Proofs.YtilplpjdbkipoaaGreatDoor

namespace Go.Proofs.YtilplpjdbkipoaaGreatDoor
open Go Go.RowKit DiskMath NetMem SpanMath SumMath

theorem lastOf_len {n : Nat} : ∀ (p : List (Nat × List UInt8)) (k : Nat) (x : List UInt8), (∀ y ∈ p, y.2.length = n) → x.length = n → (lastOf p k x).length = n
  | [], _, _, _, hx => hx
  | y :: p, k, x, h, hx => by
    show (lastOf p k (if y.1 = k then y.2 else x)).length = n
    refine lastOf_len p k _ (fun z hz => h z (by simp [hz])) ?_
    split
    · exact h y (by simp)
    · exact hx
theorem wf_la16 {d : Dk} (h : Wf d) (k : Nat) (hk : k < d.s.length) : (la d k).length = 16 := by
  rw [h.last k hk]
  refine lastOf_len _ _ _ h.row ?_
  unfold fl
  rw [List.getElem?_eq_getElem hk, Option.getD_some]
  exact h.sec _ (List.getElem_mem hk)
theorem gather_len (d : Dk) (hw : Wf d) (a m : Nat) (h : a + cnt m < d.s.length) : ∀ k, k ≤ cnt m → (gather d (a : Int) k).length = 16 * k
  | 0, _ => rfl
  | k + 1, hk => by
    rw [gather, List.length_append, gather_len d hw a m h k (by omega), show (a : Int) + 1 + (k : Int) = ((a + 1 + k : Nat) : Int) by omega, read_la d _ (by omega), wf_la16 hw _ (by omega)]
    omega

set_option maxHeartbeats 1000000 in
theorem rget_out {w0 w : World} {D : Nat → Prop} {p : Value} {d : Dk} (h : RefAt w0 w D p d) (at_ room : Int) (hi : d.has at_ = false) :
    Calls Tryz.prog 36 #[p, .int .i64 at_, .int .i64 room] w fun e w' => e = .returned (.tuple #[.int .u32 0, .slice none 0 0, .bool false]) ∧ w = w' := by
  obtain ⟨g, sv, pv, sb, ps, rfl, hm, -⟩ := h
  have HR := Lib.hid (rread_out hm at_ hi)
  clear hm hi
  go_enter Tryz.func36, Tryz.ntmps36
  go_wp2_with fail
  refine HR.out.mono ?_
  rintro e w1 ⟨rfl, rfl⟩
  go_wp2_with fail
  refine (refget_few none 0 0 w (by omega)).mono ?_
  rintro e w1 ⟨rfl, rfl⟩
  go_wp2_with fail
  go_ret3
  exact ⟨rfl, rfl⟩

theorem rread_some {w0 w : World} {D : Nat → Prop} {p : Value} {d : Dk} (h : RefAt w0 w D p d) (a : Nat) (ha : a < d.s.length) :
    Calls Tryz.prog 55 #[p, .int .i64 (a : Int)] w fun e w' => ∃ g cap, e = .returned (.slice (some ⟨g, 0, none⟩) 16 cap) ∧ 16 ≤ cap ∧ cap ≤ maxLen ∧ Row w' (.slice (some ⟨g, 0, none⟩) 16 cap) (d.read (a : Int)) ∧ Below w.heap.size w w' := by
  have hlen : (d.read (a : Int)).length = 16 := by rw [read_la d a ha]; exact wf_la16 h.wf a ha
  refine (rread_at h (a : Int)).mono fun e w' ⟨v, he, ho, hb⟩ => ?_
  rcases id ho with ⟨-, h0⟩ | ⟨g, cap, rfl, -, -, h1, h2, -, -⟩
  · rw [h0] at hlen; simp at hlen
  · have hr := ho.row
    rw [hlen] at hr h1 he
    exact ⟨g, cap, he, h1, h2, hr, hb⟩

/-- What Get answers, of a sector that is there: by its words. -/
theorem ref_model (d : Dk) (a : Nat) (room : Int) (ha : a < d.s.length) {l B : List UInt8} {T AG SZ SM : Nat} (hl : l = d.read (a : Int)) (hT : T = getB l) (hA : AG = getB (l.drop 12)) (hZ : SZ = getB (l.drop 4)) (hM : SM = getB (l.drop 8)) (hB : B = (gather d (a : Int) (cnt SZ)).take SZ) :
    spanGet d (a : Int) room = if T = 0 ∨ T ≠ AG then none else if room < (need SZ : Int) ∨ (d.s.length : Int) - (a : Int) < (need SZ : Int) then none else if sumOf B ≠ SM then none else some (T, B) := by
  rw [get_model d a room ha hl hT hA hZ hM hB]
  by_cases h : T = 0 ∨ T ≠ AG
  · rw [if_pos h, if_pos h]
  · rw [if_neg h, if_neg h]
    by_cases h2 : room < (need SZ : Int) ∨ (d.s.length : Int) - (a : Int) < (need SZ : Int)
    · rw [if_pos h2, if_pos (by omega)]
    · rw [if_neg h2, if_neg (by omega)]

theorem RefAt.sec_cell {w0 w : World} {D : Nat → Prop} {gd : Nat} {d : Dk} (h : RefAt w0 w D (.pointer (some ⟨gd, 0, none⟩)) d) : ∃ a c, w.cell? ⟨gd, 0, none⟩ = some (.slice a d.s.length c) := by
  obtain ⟨g, a, c, hp, hc⟩ := h.sectors
  simp only [Value.pointer.injEq, Option.some.injEq, Addr.mk.injEq] at hp
  obtain ⟨rfl, -, -⟩ := hp
  exact ⟨a, c, hc⟩
theorem refneed_quiet (n : Nat) (w : World) (h : n ≤ 9223372036854775807) :
    Calls Tryz.prog 29 #[.int .i64 (n : Int)] w fun e w' => e = .returned (.int .i64 (need n : Nat)) ∧ ∃ m, w' = w.drewN m :=
  (refneed_any n w h).mono fun e w' ⟨h1, h2⟩ => ⟨h1, 0, by subst h2; rfl⟩
theorem refof_quiet (p : Option Addr) (n c : Nat) (l : List UInt8) (w : World) (h : Row w (.slice p n c) l) :
    Calls Tryz.prog 57 #[.slice p n c] w fun e w' => e = .returned (.int .u32 (sumOf l : Nat)) ∧ ∃ m, w' = w.drewN m := by
  obtain ⟨rfl, -⟩ := Row.nums h
  exact (refof_any p c l w h).mono fun e w' ⟨h1, h2⟩ => ⟨h1, 0, by subst h2; rfl⟩

def RelGG (d : Dk) (a : Nat) (SZ : Nat) (w : World) (v i : Value) (wr : World) : Prop :=
  ∃ (k M : Nat) (v0 : Value), v0 = v ∧ k ≤ cnt SZ ∧ M = 16 * k ∧ NetMem.Own wr w.heap.size v0 (gather d (a : Int) k) ∧ i = .int .i64 (M : Int) ∧ Below w.heap.size w wr

set_option maxHeartbeats 8000000 in
set_option maxRecDepth 100000 in
theorem rget_in {w0 w : World} {D : Nat → Prop} {p : Value} {d : Dk} (h : RefAt w0 w D p d) (a : Nat) (room : Int) (ha : a < d.s.length) :
    Calls Tryz.prog 36 #[p, .int .i64 (a : Int), .int .i64 room] w (GetSaid (spanGet d (a : Int) room) w) := by
  obtain ⟨gd, av, cv, hpp, -⟩ := h.sectors
  subst hpp
  have HR := Lib.hid (rread_some h a ha)
  obtain ⟨i0, hi, hz0, hz1, hz2⟩ := info_parts infoB
  have HI := Lib.hid (And.intro hi (And.intro hz0 (And.intro hz1 hz2)))
  obtain ⟨l, hl⟩ : ∃ l, l = d.read (a : Int) := ⟨_, rfl⟩
  have hlen : l.length = 16 := by rw [hl, read_la d a ha]; exact wf_la16 h.wf a ha
  obtain ⟨T, hT⟩ : ∃ T, T = getB l := ⟨_, rfl⟩
  obtain ⟨AG, hA⟩ : ∃ T, T = getB (l.drop 12) := ⟨_, rfl⟩
  obtain ⟨SZ, hZ⟩ : ∃ T, T = getB (l.drop 4) := ⟨_, rfl⟩
  obtain ⟨SM, hM⟩ : ∃ T, T = getB (l.drop 8) := ⟨_, rfl⟩
  obtain ⟨B, hB⟩ : ∃ B, B = (gather d (a : Int) (cnt SZ)).take SZ := ⟨_, rfl⟩
  have hmod := ref_model d a room ha hl hT hA hZ hM hB
  have bZ : SZ < 4294967296 := by have := getB_lt (l.drop 4); omega
  obtain ⟨Z, hZZ⟩ : ∃ Z : Int, Z = (SZ : Int) := ⟨_, rfl⟩
  have z0 : 0 ≤ Z := by omega
  have z1 : Z ≤ 4294967295 := by omega
  obtain ⟨N, hN⟩ : ∃ N, N = d.s.length := ⟨_, rfl⟩
  have hN4 := h.max
  rw [← hN] at hmod ha hN4
  have HM := Lib.hid hmod
  have HD := Lib.hid (And.intro h (And.intro hN (And.intro hB (And.intro hZZ (And.intro bZ (And.intro hN4 ha))))))
  have HL := Lib.hid (And.intro hl (And.intro hlen (And.intro hT (And.intro hA (And.intro hZ hM)))))
  clear h hl hlen hmod hN hB hT hA hZ hM hi hz0 hz1 hz2 bZ hN4 ha hZZ
  go_enter Tryz.func36, Tryz.ntmps36
  go_wp2_with fail
  refine HR.out.mono ?_
  rintro e w1 ⟨g, cap, rfl, hc1, hc2, hr, hb⟩
  rw [← HL.out.1] at hr
  unfold maxLen at hc2
  have hl12 : 4 ≤ (l.drop 12).length := by rw [List.length_drop, HL.out.2.1]; omega
  have hl8 : 4 ≤ (l.drop 8).length := by rw [List.length_drop, HL.out.2.1]; omega
  have hl4 : 4 ≤ (l.drop 4).length := by rw [List.length_drop, HL.out.2.1]; omega
  have hl0 : 4 ≤ l.length := by rw [HL.out.2.1]; omega
  have G0 := Lib.hid (fun W (h : Row W (.slice (some ⟨g, 0, none⟩) 16 cap) l) => refget_q g 0 16 cap l W h hl0)
  have G4 := Lib.hid (fun W (h : Row W (.slice (some ⟨g, 0, none⟩) 16 cap) l) => refget_q g 4 12 (cap - 4) (l.drop 4) W (by have := row_drop h 4 (by omega); rwa [Nat.zero_add] at this) hl4)
  have G8 := Lib.hid (fun W (h : Row W (.slice (some ⟨g, 0, none⟩) 16 cap) l) => refget_q g 8 8 (cap - 8) (l.drop 8) W (by have := row_drop h 8 (by omega); rwa [Nat.zero_add] at this) hl8)
  have G12 := Lib.hid (fun W (h : Row W (.slice (some ⟨g, 0, none⟩) 16 cap) l) => refget_q g 12 4 (cap - 12) (l.drop 12) W (by have := row_drop h 12 (by omega); rwa [Nat.zero_add] at this) hl12)
  rw [← HL.out.2.2.1] at G0
  rw [← HL.out.2.2.2.1] at G12
  rw [← HL.out.2.2.2.2.1] at G4
  rw [← HL.out.2.2.2.2.2] at G8
  have H1 := Lib.hid (And.intro hr hb)
  clear hr hb hl12 hl8 hl4 hl0
  go_wp2_with fail
  refine (G0.out w1 H1.out.1).mono ?_
  rintro e w2 ⟨rfl, m2, rfl⟩
  have H2 := Lib.hid (And.intro (row_drewN H1.out.1 m2) (H1.out.2.trans (below_drewN w.heap.size w1 m2)))
  obtain ⟨w2, hw2⟩ : ∃ w2, w2 = w1.drewN m2 := ⟨_, rfl⟩
  rw [← hw2] at H2 ⊢
  clear hw2
  by_cases h0 : T = 0
  · have HG := Lib.hid (show spanGet d (a : Int) room = none from by rw [HM.out, if_pos (.inl h0)])
    have h0b : ((T : Int) == 0) = true := by simp [h0]
    clear h0
    go_wp2_with fail
    go_ret3
    exact getSaid_none HG.out H2.out.2
  · have h0b : ((T : Int) == 0) = false := by simpa using h0
    by_cases h1 : T = AG
    · have h1b : ((T : Int) != (AG : Int)) = false := by simp; omega
      have h01 : ¬ (T = 0 ∨ T ≠ AG) := by omega
      have HM2 := Lib.hid (show spanGet d (a : Int) room = if room < (need SZ : Int) ∨ (N : Int) - (a : Int) < (need SZ : Int) then none else if sumOf B ≠ SM then none else some (T, B) from by rw [HM.out, if_neg h01])
      clear h0 h1 h01
      go_wp2_with fail
      refine (G12.out w2 H2.out.1).mono ?_
      rintro e w3 ⟨rfl, m3, rfl⟩
      have H3 := Lib.hid (And.intro (row_drewN H2.out.1 m3) (H2.out.2.trans (below_drewN w.heap.size w2 m3)))
      obtain ⟨w3, hw3⟩ : ∃ w3, w3 = w2.drewN m3 := ⟨_, rfl⟩
      rw [← hw3] at H3 ⊢
      clear hw3
      go_wp2_with fail
      refine (G4.out w3 H3.out.1).mono ?_
      rintro e w4 ⟨rfl, m4, rfl⟩
      have H4 := Lib.hid (And.intro (row_drewN H3.out.1 m4) (H3.out.2.trans (below_drewN w.heap.size w3 m4)))
      obtain ⟨w4, hw4⟩ : ∃ w4, w4 = w3.drewN m4 := ⟨_, rfl⟩
      rw [← hw4] at H4 ⊢
      clear hw4
      rw [← HD.out.2.2.2.1]
      go_wp2_with fail
      obtain ⟨X, hX⟩ : ∃ X : Int, X = (need SZ : Int) := ⟨_, rfl⟩
      have HNQ := Lib.hid (fun w => refneed_quiet SZ w (by have := HD.out.2.2.2.2.1; omega))
      rw [← HD.out.2.2.2.1, ← hX] at HNQ
      rw [← hX] at HM2
      have HX := Lib.hid hX
      have x1 : 1 ≤ X := by rw [hX]; unfold need; omega
      obtain ⟨av2, cv2, hsc⟩ := (HD.out.1.below H4.out.2).sec_cell
      rw [← HD.out.2.1] at hsc
      have n1 : (N : Int) ≤ 4000 := by have := HD.out.2.2.2.2.2.1; omega
      have a1 : (a : Int) ≤ 4000 := by have := HD.out.2.2.2.2.2.1; have := HD.out.2.2.2.2.2.2; omega
      have a0 : (0 : Int) ≤ (a : Int) := by omega
      have n0 : (0 : Int) ≤ (N : Int) := by omega
      clear hX
      have main : decide (room < X) = true ∨ (decide (room < X) = false ∧ decide ((N : Int) - (a : Int) < X) = true) ∨ (decide (room < X) = false ∧ decide ((N : Int) - (a : Int) < X) = false) := by
        simp only [decide_eq_true_eq, decide_eq_false_iff_not]; omega
      rcases main with g1 | ⟨g1, g2⟩ | ⟨g1, g2⟩
      · have HG := Lib.hid (show spanGet d (a : Int) room = none from by rw [HM2.out, if_pos (.inl (by simpa using g1))])
        go_quiet ((go_at_call 29; exact Calls.quiet_of (by with_reducible exact HNQ.out _)))
        go_wp2_with fail
        go_ret3
        exact getSaid_none HG.out (H4.out.2.trans (below_drewN _ _ _))
      · have HG := Lib.hid (show spanGet d (a : Int) room = none from by rw [HM2.out, if_pos (.inr (by simpa using g2))])
        go_quiet ((go_at_call 29; exact Calls.quiet_of (by with_reducible exact HNQ.out _)))
        go_wp2_with fail
        go_ret3
        exact getSaid_none HG.out (H4.out.2.trans (below_drewN _ _ _))
      · have HG := Lib.hid (show spanGet d (a : Int) room = if sumOf B ≠ SM then none else some (T, B) from by rw [HM2.out, if_neg (by simp only [decide_eq_false_iff_not] at g1 g2; omega)])
        have HCN := Lib.hid (show a + cnt SZ < d.s.length from by have := HX.out; have := HD.out.2.1; simp only [decide_eq_false_iff_not] at g1 g2; unfold need at *; omega)
        have cz : (cnt SZ : Int) ≤ 4000 := by have := HCN.out; have := HD.out.2.1; omega
        go_quiet ((go_at_call 29; exact Calls.quiet_of (by with_reducible exact HNQ.out _)))
        obtain ⟨w5, hw5⟩ : ∃ w5, w5 = w4.drewN nq := ⟨_, rfl⟩
        have H5 := Lib.hid (show Row w5 (.slice (some ⟨g, 0, none⟩) 16 cap) l ∧ Below w.heap.size w w5 from by rw [hw5]; exact ⟨row_drewN H4.out.1 _, H4.out.2.trans (below_drewN w.heap.size w4 _)⟩)
        rw [← hw5]
        clear hw5 hsc g1 g2 HM2 HNQ x1
        go_wp2_with fail
        go_loopw [12, 13] (fun v i wr => RelGG d a SZ w5 v i wr) (fun _ i _ => SZ - (intOf i).toNat)
        case atStart => exact ⟨0, 0, _, rfl, by omega, rfl, NetMem.Own.nil _ _, rfl, Below.refl _ _⟩
        case round =>
          obtain ⟨k, M, v, rfl, hk, hM, ho, rfl, hb⟩ := hrel
          have hgk := gather_len d HD.out.1.wf a SZ HCN.out
          have hcm := cnt_le SZ
          by_cases hlt : k < cnt SZ
          · have hml : M < SZ := by rw [hM]; exact (cnt_lt _ _).1 hlt
            have hq16 : (M : Int) / 16 = (k : Int) := by omega
            have m0 : (0 : Int) ≤ (M : Int) := by omega
            have m1 : (M : Int) < Z := by have := HD.out.2.2.2.1; omega
            have m2 : (M : Int) ≤ 64000 := by omega
            have k0 : (0 : Int) ≤ (k : Int) := by omega
            have k1 : (k : Int) ≤ 4000 := by omega
            have h1 := hgk (k + 1) (by omega)
            have h2 := hgk k (by omega)
            rw [gather, List.length_append] at h1
            have HRR := Lib.hid (rread_at (HD.out.1.below (H5.out.2.trans (hb.mono H5.out.2.size))) ((a : Int) + 1 + (k : Int)))
            have HO := Lib.hid (And.intro ho (And.intro hb (And.intro (show (gather d (a : Int) k).length + (d.read ((a : Int) + 1 + (k : Int))).length ≤ 140737488355328 by omega) (And.intro hlt hM))))
            clear ho hb h1 h2 hgk hcm hml hlt hM hk
            go_wp2_with fail
            refine HRR.out.mono ?_
            rintro e w6 ⟨v6, rfl, ho6, hb6⟩
            have HQ := Lib.hid (And.intro (HO.out.1.below hb6) (And.intro (Row.src (P := Tryz.prog) ho6.row Tryz.underlying56) (HO.out.2.1.trans (hb6.mono HO.out.2.1.size))))
            clear ho6 hb6
            go_wp2_with (at_builtin; refine wpList_append_bytes _ rfl _ _ 56 56 rfl 5 i0 Tryz.underlying56 HI.out.1 HI.out.2.1 HI.out.2.2.1 HI.out.2.2.2 w5.heap.size _ _ rfl HQ.out.1 _ _ rfl HQ.out.2.1 HO.out.2.2.1 HQ.out.2.2.size ?_)
            intro v' w' ho3 hg3 hnil
            have HB := Lib.hid (And.intro ho3 (HQ.out.2.2.grown hg3 HQ.out.2.2.size (fun k hk => (HQ.out.1.lt k hk).1)))
            clear ho3 hg3 hnil
            go_wp2_with fail
            exact ⟨⟨k + 1, M + 16, _, rfl, by have := HO.out.2.2.2.1; omega, by have := HO.out.2.2.2.2; omega, HB.out.1, by go_num, HB.out.2⟩, by have := HD.out.2.2.2.1; simp [intOf]; omega⟩
          · obtain rfl : k = cnt SZ := by omega
            have hkk := hgk (cnt SZ) (Nat.le_refl _)
            have hle : SZ ≤ (gather d (a : Int) (cnt SZ)).length := by rw [hkk]; exact hcm
            have m1 : Z ≤ (M : Int) := by have := HD.out.2.2.2.1; omega
            have hz2 : Z ≤ 64000 := by have := HD.out.2.2.2.1; omega
            have fin : ∃ (q : Option Addr) (n c : Nat), v = .slice q n c ∧ (SZ : Nat) ≤ c ∧ NetMem.Own wr w5.heap.size (.slice q SZ c) B := by
              rw [HD.out.2.2.1]
              rcases id ho with ⟨rfl, h0⟩ | ⟨g', cap', rfl, hB', hg', hlc', hcm', hf', hc'⟩
              · have h00 : SZ = 0 := by rw [h0] at hle; simpa using hle
                exact ⟨none, 0, 0, rfl, by omega, by rw [h00, List.take_zero]; exact NetMem.Own.nil _ _⟩
              · exact ⟨_, _, cap', rfl, by omega, own_take ho SZ hle⟩
            obtain ⟨q, nn, cc, rfl, hcc, hob⟩ := fin
            have HB5 := Lib.hid (And.intro hob hb)
            have hcz : Z ≤ (cc : Int) := by have := HD.out.2.2.2.1; omega
            have zt : Z.toNat = SZ := by have := HD.out.2.2.2.1; omega
            have OF := Lib.hid (fun m => refof_quiet q SZ cc B (wr.drewN m) (row_drewN hob.row m))
            have G88 := Lib.hid (fun m => G8.out (wr.drewN m) (row_drewN (H5.out.1.below hb) m))
            clear ho hb hgk hkk hcm hle hob hcc hM hk hlt
            go_wp2_with fail
            go_quiet (first | (go_at_call 57; exact Calls.quiet_of (by with_reducible exact OF.out _)) | (go_at_call 56; exact Calls.quiet_of (by with_reducible exact G88.out _)))
            have H7 := Lib.hid (show Below w.heap.size w (wr.drewN nq) ∧ NetMem.Own (wr.drewN nq) w.heap.size (.slice q SZ cc) B from ⟨(H5.out.2.trans (HB5.out.2.mono H5.out.2.size)).trans (below_drewN _ _ _), (HB5.out.1.mono H5.out.2.size).keep (Nat.le_refl _) fun _ _ => rfl⟩)
            by_cases hne : sumOf B = SM
            · have hb : (((sumOf B : Nat) : Int) != (SM : Int)) = false := by simp; omega
              have HG2 := Lib.hid (show spanGet d (a : Int) room = some (T, B) from by rw [HG.out, if_neg (by simp; exact hne)])
              clear hne
              go_wp2_with fail
              go_ret3
              exact getSaid_some HG2.out H7.out.2 H7.out.1
            · have hb : (((sumOf B : Nat) : Int) != (SM : Int)) = true := by simp; omega
              have HG2 := Lib.hid (show spanGet d (a : Int) room = none from by rw [HG.out, if_pos hne])
              clear hne
              go_wp2_with fail
              go_ret3
              exact getSaid_none HG2.out H7.out.1
    · have HG := Lib.hid (show spanGet d (a : Int) room = none from by rw [HM.out, if_pos (.inr h1)])
      have h1b : ((T : Int) != (AG : Int)) = true := by simp; omega
      clear h0 h1
      go_wp2_with fail
      refine (G12.out w2 H2.out.1).mono ?_
      rintro e w3 ⟨rfl, m, rfl⟩
      go_wp2_with fail
      go_ret3
      exact getSaid_none HG.out (H2.out.2.trans (below_drewN _ _ _))
end Go.Proofs.YtilplpjdbkipoaaGreatDoor
