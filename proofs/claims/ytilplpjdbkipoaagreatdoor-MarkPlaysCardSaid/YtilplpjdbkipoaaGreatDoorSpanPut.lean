/-
  Proved: span's putHead, Clear, Put do to a disk what their model does. Conditions: the bytes can be read and are no part of the disk; fewer than 2^31 of them.
-/
import Derived.Test.YtilplpjdbkipoaaGreatDoorSpanRows
import Derived.Test.YtilplpjdbkipoaaGreatDoorSpanCat
import Derived.Test.YtilplpjdbkipoaaGreatDoorSpanNeed
namespace Go.Proofs.YtilplpjdbkipoaaGreatDoor
open Go Go.RowKit DiskMath NetMem SpanMath

/-- A step behind a step. -/
theorem Step.on {D E : Nat → Prop} {w w1 w2 : World} {p : Value} {d : Dk} (hk : Kept D w w1) (hE : ∀ k, E k → D k ∨ w.heap.size ≤ k) (h : Step E w1 w2 p d) : Step D w w2 p d := by
  obtain ⟨E', hd', hk', hE'⟩ := h
  exact ⟨E', hd', hk.trans hk' hE, fun i hi => (hE' i hi).elim (hE i) fun h => .inr (Nat.le_trans hk.size h)⟩

set_option maxHeartbeats 1000000 in
theorem putHead_at {w : World} {D : Nat → Prop} {p : Value} {d : Dk} (h : DiskAt w D p d) (at_ : Int) {v : Value} {l : List UInt8} (hr : Row w v l) (hn : d.n + 1 < 4611686018427387904) (hp : d.p.length < 4294967296) :
    Calls Tryz.prog 46 #[p, .int .i64 at_, v] w fun e w' => e = .returned (.int .i64 (putHead d at_ l).1) ∧ Step D w w' p (putHead d at_ l).2 := by
  have hm := write_n d at_ l
  obtain ⟨e0, d1, he⟩ : ∃ e0 d1, d.write at_ l = (e0, d1) := ⟨_, _, rfl⟩
  have hW := write_at h at_ v l hr (by omega) (by omega)
  rw [he] at hm
  simp only at hm
  obtain ⟨e1, d2, he2⟩ : ∃ e1 d2, d1.flush = (e1, d2) := ⟨_, _, rfl⟩
  have hF : ∀ w1 E, DiskAt w1 E p d1 → Calls Tryz.prog 45 #[p] w1 fun e w' => e = .returned (.int .i64 e1) ∧ Step E w1 w' p d2 := fun w1 E hd => by
    have := flush_at hd (by omega)
    rwa [he2] at this
  unfold putHead
  rw [he] at hW ⊢
  simp only at hW ⊢
  have HW := Lib.hid hW
  have HF := Lib.hid hF
  have HE2 := Lib.hid he2
  clear hW hF he hm hn hp h he2 hr
  by_cases h0 : e0 = 0
  · subst h0
    rw [if_pos rfl, HE2.out]
    go_enter Tryz.func46, Tryz.ntmps46
    go_wp2_with fail
    refine HW.out.mono ?_
    rintro e w1 ⟨rfl, D1, hd1, hk1, hD1⟩
    have H1 := Lib.hid (And.intro hd1 (And.intro hk1 hD1))
    clear hd1 hk1 hD1
    go_wp2_with fail
    refine (HF.out w1 D1 H1.out.1).mono ?_
    rintro e w2 ⟨rfl, hs⟩
    have H2 := Lib.hid (Step.on H1.out.2.1 H1.out.2.2 hs)
    clear hs
    go_wp2_with fail
    go_ret
    exact ⟨rfl, H2.out⟩
  · have hne : (e0 != 0) = true := by simpa using h0
    rw [if_neg h0]
    clear h0
    go_enter Tryz.func46, Tryz.ntmps46
    go_wp2_with fail
    refine HW.out.mono ?_
    rintro e w1 ⟨rfl, hs⟩
    have H1 := Lib.hid hs
    clear hs
    go_wp2_with fail
    go_ret
    exact ⟨rfl, H1.out⟩

theorem zeros_own (w : World) (e : TypeId) : NetMem.Own (w.alloc (.cells #[.int .u8 0, .int .u8 0, .int .u8 0, .int .u8 0, .int .u8 0, .int .u8 0, .int .u8 0, .int .u8 0, .int .u8 0, .int .u8 0, .int .u8 0, .int .u8 0, .int .u8 0, .int .u8 0, .int .u8 0, .int .u8 0] e)) w.heap.size (.slice (some ⟨w.heap.size, 0, none⟩) 16 16) zeroB :=
  NetMem.Own.made w e zeroB 16 (by decide) (by simp [maxLen]) (Lib.byteCells zeroB).toArray rfl (fun j h => (by simpa using bc_at zeroB j h)) w.heap.size (Nat.le_refl _)
theorem made16 (w : World) : (Instr.makeSlice 56 (.int .i64 16) (.int .i64 16)).run Tryz.prog w = .ok (.slice (some ⟨w.heap.size, 0, none⟩) 16 16)
    (w.alloc (.cells #[.int .u8 0, .int .u8 0, .int .u8 0, .int .u8 0, .int .u8 0, .int .u8 0, .int .u8 0, .int .u8 0, .int .u8 0, .int .u8 0, .int .u8 0, .int .u8 0, .int .u8 0, .int .u8 0, .int .u8 0, .int .u8 0] 5)) := by
  obtain ⟨i0, hi, hz0, hz1, hz2⟩ := info_parts infoB
  have := run_make (P := Tryz.prog) w 56 5 i0 (.int .u8 0) Tryz.underlying56 hi hz0 .i64 .i64 16 16 (by omega) (Int.le_refl _) (by rw [hz2]; omega) (by omega)
  rw [← zeros16]
  simpa [hz1, Value.cells] using this

set_option maxHeartbeats 1000000 in
theorem clear_at {w : World} {D : Nat → Prop} {p : Value} {d : Dk} (h : DiskAt w D p d) (at_ : Int) (hn : d.n + 1 < 4611686018427387904) (hp : d.p.length < 4294967296) :
    Calls Tryz.prog 43 #[p, .int .i64 at_] w fun e w' => e = .returned (.int .i64 (spanClear d at_).1) ∧ Step D w w' p (spanClear d at_).2 := by
  have hmk := made16
  have hb : Below w.heap.size w (w.alloc (.cells #[.int .u8 0, .int .u8 0, .int .u8 0, .int .u8 0, .int .u8 0, .int .u8 0, .int .u8 0, .int .u8 0, .int .u8 0, .int .u8 0, .int .u8 0, .int .u8 0, .int .u8 0, .int .u8 0, .int .u8 0, .int .u8 0] 5)) := (Below.refl _ w).alloc (Nat.le_refl _) _
  have HC := Lib.hid (putHead_at (h.below hb) at_ (zeros_own w 5).row hn hp)
  have HB := Lib.hid (And.intro h hb)
  clear h hb hn hp
  go_enter Tryz.func43, Tryz.ntmps43
  go_wp2_with fail
  refine HC.out.mono ?_
  rintro e w1 ⟨rfl, hs⟩
  have H1 := Lib.hid (Step.ahead HB.out.2 hs)
  clear hs
  go_wp2_with fail
  go_ret
  exact ⟨rfl, H1.out⟩

set_option maxHeartbeats 2000000 in
set_option maxRecDepth 100000 in
theorem put_at {w : World} {D : Nat → Prop} {p : Value} {d : Dk} (h : DiskAt w D p d) (at_ room : Int) (ha : -9223372036854775808 ≤ at_) (hb : at_ ≤ 4611686018427387904) (tag : Nat) (ht : tag < 4294967296) (q : Option Addr) (c : Nat) (l : List UInt8) (hr : RowO w D (.slice q l.length c) l)
    (hl : l.length ≤ 2147483648) (hn : d.n + l.length + 4 < 4611686018427387904) (hp : d.p.length + l.length + 4 < 4294967296) :
    Calls Tryz.prog 25 #[p, .int .i64 at_, .int .i64 room, .int .u32 (tag : Int), .slice q l.length c] w fun e w' => e = .returned (.int .i64 (spanPut d at_ room tag l).1) ∧ Step D w w' p (spanPut d at_ room tag l).2 := by
  have HN := Lib.hid (need_any l.length w (by omega))
  have hl0 : (l.length : Int) ≤ 2147483648 := by omega
  by_cases hroom : room < (need l.length : Int)
  · rw [put_full d at_ room tag l hroom]
    have HS := Lib.hid (Step.same h)
    clear h hr hl hn hp ha hb ht
    go_enter Tryz.func25, Tryz.ntmps25
    go_wp2_with fail
    refine HN.out.mono ?_
    rintro e w1 ⟨rfl, rfl⟩
    go_wp2_with fail
    go_ret
    exact ⟨rfl, HS.out⟩
  · have hroom' : (need l.length : Int) ≤ room := by omega
    have hm := putRows_n (rowsOf l) at_ d
    rw [rowsOf_length] at hm
    have hcs := cnt_self l.length
    have hW := writeBytes_at h at_ ha hb q c l hr hl (by omega) (by omega)
    obtain ⟨e1, d1, he1⟩ : ∃ e1 d1, putRows at_ (rowsOf l) d = (e1, d1) := ⟨_, _, rfl⟩
    rw [he1] at hm hW
    simp only at hm hW
    have hfn := flush_n d1
    obtain ⟨e2, d2, he2⟩ : ∃ e2 d2, d1.flush = (e2, d2) := ⟨_, _, rfl⟩
    rw [he2] at hfn
    simp only at hfn
    have hF : ∀ w1 E, DiskAt w1 E p d1 → Calls Tryz.prog 45 #[p] w1 fun e w' => e = .returned (.int .i64 e2) ∧ Step E w1 w' p d2 := fun w1 E hd => by
      have := flush_at hd (by omega)
      rwa [he2] at this
    have hH : ∀ w1 E v, DiskAt w1 E p d2 → Row w1 v (headB tag l) → Calls Tryz.prog 46 #[p, .int .i64 at_, v] w1 fun e w' => e = .returned (.int .i64 (putHead d2 at_ (headB tag l)).1) ∧ Step E w1 w' p (putHead d2 at_ (headB tag l)).2 := fun w1 E v hd hv =>
      putHead_at hd at_ hv (by omega) (by omega)
    have HW := Lib.hid hW
    have HF := Lib.hid hF
    have HH := Lib.hid hH
    have HR := Lib.hid (And.intro hr (And.intro ht hl))
    have HE := Lib.hid (show spanPut d at_ room tag l = if e1 ≠ 0 then (e1, d1) else if e2 ≠ 0 then (e2, d2) else putHead d2 at_ (headB tag l) from by
      unfold spanPut
      rw [if_neg hroom, he1]
      simp only [he2])
    clear h hr hl hn hp ha hb ht hm hcs hfn he1 he2 hroom hW hF hH
    by_cases h1 : e1 = 0
    · subst h1
      by_cases h2 : e2 = 0
      · subst h2
        have HQ := Lib.hid (show spanPut d at_ room tag l = putHead d2 at_ (headB tag l) from by rw [HE.out, if_neg (by simp), if_neg (by simp)])
        rw [HQ.out]
        clear HQ HE
        go_enter Tryz.func25, Tryz.ntmps25
        go_wp2_with fail
        refine HN.out.mono ?_
        rintro e w1 ⟨rfl, rfl⟩
        go_wp2_with fail
        refine HW.out.mono ?_
        rintro e w1 ⟨rfl, D1, hd1, hk1, hD1⟩
        have H1 := Lib.hid (And.intro hd1 (And.intro hk1 hD1))
        clear hd1 hk1 hD1
        go_wp2_with fail
        refine (HF.out w1 D1 H1.out.1).mono ?_
        rintro e w2 ⟨rfl, D2, hd2, hk2, hD2⟩
        have H2 := Lib.hid (And.intro hd2 (And.intro (H1.out.2.1.trans hk2 H1.out.2.2) (And.intro (show ∀ k, D2 k → D k ∨ w.heap.size ≤ k from fun i hi => (hD2 i hi).elim (H1.out.2.2 i) fun h => .inr (Nat.le_trans H1.out.2.1.size h)) ((HR.out.1.step H1.out.2.1 H1.out.2.2).step hk2 hD2))))
        clear hd2 hk2 hD2
        go_wp2_with fail
        refine (headOf_any tag HR.out.2.1 q c l w2 H2.out.2.2.2.1 (by have := HR.out.2.2; omega)).mono ?_
        rintro e w3 ⟨v, rfl, ho, hb⟩
        have H3 := Lib.hid (And.intro (H2.out.1.below hb) (And.intro ho.row hb))
        clear ho hb
        go_wp2_with fail
        refine (HH.out w3 D2 v H3.out.1 H3.out.2.1).mono ?_
        rintro e w4 ⟨rfl, hs⟩
        have H4 := Lib.hid (Step.on H2.out.2.1 H2.out.2.2.1 (Step.ahead H3.out.2.2 hs))
        clear hs
        go_wp2_with fail
        go_ret
        exact ⟨rfl, H4.out⟩
      · have hne : (e2 != 0) = true := by simpa using h2
        have HQ := Lib.hid (show spanPut d at_ room tag l = (e2, d2) from by rw [HE.out, if_neg (by simp), if_pos h2])
        rw [HQ.out]
        clear HQ HE h2
        go_enter Tryz.func25, Tryz.ntmps25
        go_wp2_with fail
        refine HN.out.mono ?_
        rintro e w1 ⟨rfl, rfl⟩
        go_wp2_with fail
        refine HW.out.mono ?_
        rintro e w1 ⟨rfl, D1, hd1, hk1, hD1⟩
        have H1 := Lib.hid (And.intro hd1 (And.intro hk1 hD1))
        clear hd1 hk1 hD1
        go_wp2_with fail
        refine (HF.out w1 D1 H1.out.1).mono ?_
        rintro e w2 ⟨rfl, hs⟩
        have H2 := Lib.hid (Step.on H1.out.2.1 H1.out.2.2 hs)
        clear hs
        go_wp2_with fail
        go_ret
        exact ⟨rfl, H2.out⟩
    · have hne : (e1 != 0) = true := by simpa using h1
      have HQ := Lib.hid (show spanPut d at_ room tag l = (e1, d1) from by rw [HE.out, if_pos h1])
      rw [HQ.out]
      clear HQ HE h1
      go_enter Tryz.func25, Tryz.ntmps25
      go_wp2_with fail
      refine HN.out.mono ?_
      rintro e w1 ⟨rfl, rfl⟩
      go_wp2_with fail
      refine HW.out.mono ?_
      rintro e w1 ⟨rfl, hs⟩
      have H1 := Lib.hid hs
      clear hs
      go_wp2_with fail
      go_ret
      exact ⟨rfl, H1.out⟩
end Go.Proofs.YtilplpjdbkipoaaGreatDoor
