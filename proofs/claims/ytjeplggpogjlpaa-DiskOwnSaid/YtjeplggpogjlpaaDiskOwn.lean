/-
  Proved: the walk of the law DiskOwn: what is handed in is not kept, what is answered is new memory, a nil Disk is down; so it answers true and changes nothing that was there. Conditions: the bytes can be read.
-/
import Derived.Test.YtjeplggpogjlpaaDiskConv
namespace Go.Proofs.Ytjeplggpogjlpaa
open Go Go.RowKit DiskMath NetMem

theorem own_model (x : List UInt8) (hx : x.length = 16) : ∃ d1 d2, (Dk.new 3).write 1 x = (0, d1) ∧ d1.flush = (0, d2) ∧ d2.read 1 = x ∧ d1.n < 4611686018427387904 := by
  refine ⟨(Dk.new 3).put 1 x, ((Dk.new 3).put 1 x).flushed, ?_, rfl, rfl, show 1 < 4611686018427387904 by decide⟩
  unfold Dk.write
  rw [if_neg (by decide), if_neg (by omega), if_neg (by decide), if_neg (by decide)]
  rfl

set_option maxHeartbeats 1000000 in
theorem own_out (p : Option Addr) (c : Nat) (l : List UInt8) (w : World) (h : Row w (.slice p l.length c) l) (h16 : 16 < l.length) :
    Calls Try.prog 4 #[.slice p l.length c] w fun e w' => e = .returned (.bool true) ∧ Below w.heap.size w w' := by
  have HH := Lib.hid h
  have hll : (16 : Int) < (l.length : Int) := by omega
  clear h h16
  go_enter Try.func4, Try.ntmps4
  go_wp2_with fail
  refine (whole_any p c l w HH.out).mono ?_
  rintro e w1 ⟨v, rfl, ho, hb⟩
  have HO := Lib.hid (And.intro ho hb)
  clear ho hb
  go_wp2_with fail
  refine (new_st_beside 3 (by omega) 3 rfl HO.out.2 HO.out.1).mono ?_
  rintro e w2 ⟨g, rfl, hs⟩
  have HS := Lib.hid hs
  clear hs
  go_wp2_with fail
  go_ret
  exact ⟨rfl, HS.out.old⟩

set_option maxHeartbeats 4000000 in
set_option maxRecDepth 100000 in
theorem own_in (p : Option Addr) (c : Nat) (l : List UInt8) (w : World) (h : Row w (.slice p l.length c) l) (h16 : l.length ≤ 16) :
    Calls Try.prog 4 #[.slice p l.length c] w fun e w' => e = .returned (.bool true) ∧ Below w.heap.size w w' := by
  have HH := Lib.hid (And.intro h (pad_length l))
  have hll : (l.length : Int) ≤ (16 : Int) := by omega
  obtain ⟨d1, d2, hm⟩ := own_model (pad l) (pad_length l)
  have HM := Lib.hid hm
  obtain ⟨sa, hsa⟩ : ∃ sa : ByteArray, (⟨(pad l).toArray⟩ : ByteArray) = sa := ⟨_, rfl⟩
  have HSA := Lib.hid hsa
  clear h h16 hm hsa
  go_enter Try.func4, Try.ntmps4
  go_wp2_with fail
  refine (whole_any p c l w HH.out.1).mono ?_
  rintro e w1 ⟨v, rfl, ho, hb⟩
  obtain ⟨gx, cx, rfl, hcx, hcx', -⟩ := own_sixteen ho HH.out.2
  have HO := Lib.hid (And.intro ho hb)
  clear ho hb
  go_wp2_with fail
  refine (new_st_beside 3 (by omega) 3 rfl HO.out.2 HO.out.1).mono ?_
  rintro e w2 ⟨g, rfl, hs⟩
  have HS := Lib.hid hs
  have hcv := conv_row (HS.out.row List.mem_cons_self).row
  rw [HSA.out] at hcv
  clear hs
  go_wp2_with fail
  clear hcv
  refine (write_st HS.out 1 (HS.out.row List.mem_cons_self).row HM.out.1 (by decide) (by decide)).mono ?_
  rintro e w3 ⟨rfl, hs⟩
  have H3 := Lib.hid hs
  clear hs
  obtain ⟨q, cap, hv, -, -, hc0, hf0⟩ := own_sixteen (H3.out.row List.mem_cons_self) HH.out.2
  simp only [Value.slice.injEq, Option.some.injEq, Addr.mk.injEq] at hv
  obtain ⟨⟨rfl, -, -⟩, -, rfl⟩ := hv
  obtain ⟨e0, he0⟩ : ∃ e0, e0 = (pad l).getD 0 0 := ⟨_, rfl⟩
  rw [← he0] at hc0
  obtain ⟨y0, hy0⟩ := xor255 e0
  have H3b := Lib.hid (H3.out.store 0 (by rw [HH.out.2]; omega) y0)
  have hel := e0.toNat_lt
  clear he0
  go_wp2_with fail
  refine (flush_st H3b.out HM.out.2.1 HM.out.2.2.2).mono ?_
  rintro e w4 ⟨rfl, hs⟩
  have H4 := Lib.hid hs
  clear hs hc0 hf0 hy0 hel
  go_wp2_with fail
  refine (read_st H4.out 1 HM.out.2.2.1).mono ?_
  rintro e w5 ⟨v, rfl, hs⟩
  have hs5 := hs.less (rows' := [(v, pad l)]) (fun r hr => by simp at hr; simp [hr])
  obtain ⟨qy, cy, rfl, hcy, hcy', hc1, hf1⟩ := own_sixteen (hs5.row List.mem_cons_self) HH.out.2
  have hcv5 := conv_row (hs5.row List.mem_cons_self).row
  rw [HSA.out] at hcv5
  have H5 := Lib.hid hs5
  obtain ⟨e1, he1⟩ : ∃ e1, e1 = (pad l).getD 0 0 := ⟨_, rfl⟩
  rw [← he1] at hc1
  obtain ⟨y1, hy1⟩ := xor255 e1
  have hel := e1.toNat_lt
  clear hs hs5 he1
  have H5b := Lib.hid (H5.out.store 0 (by rw [HH.out.2]; omega) y1)
  go_wp2_with fail
  obtain ⟨w6, hw6⟩ : ∃ w6, w6 = w5.setCell ⟨qy, 0, none⟩ (.int .u8 (y1.toNat : Int)) := ⟨_, rfl⟩
  rw [← hw6] at H5b ⊢
  clear hw6 hcv5 hc1 hf1 hy1 hel
  refine (arm_nil _ w6 0 none 0 0 rfl).mono ?_
  rintro e w7 ⟨rfl, hb⟩
  have H7 := Lib.hid (H5b.out.below hb)
  clear hb
  go_wp2_with fail
  refine (restart_nil w7).mono ?_
  rintro e w8 ⟨rfl, rfl⟩
  go_wp2_with fail
  refine (read_st H7.out 1 HM.out.2.2.1).mono ?_
  rintro e w8 ⟨v, rfl, hs⟩
  have hs8 := hs.less (rows' := [(v, pad l)]) (fun r hr => by simp at hr; simp [hr])
  obtain ⟨qz, cz, rfl, hcz, hcz', -⟩ := own_sixteen (hs8.row List.mem_cons_self) HH.out.2
  have hcv8 := conv_row (hs8.row List.mem_cons_self).row
  rw [HSA.out] at hcv8
  have H8 := Lib.hid hs8
  clear hs hs8
  go_wp2_with fail
  refine (write_nil 0 _ w8).mono ?_
  rintro e w9 ⟨rfl, rfl⟩
  go_wp2_with fail
  refine (flush_nil w8).mono ?_
  rintro e w9 ⟨rfl, rfl⟩
  go_wp2_with fail
  refine (down_nil w8).mono ?_
  rintro e w9 ⟨rfl, rfl⟩
  go_wp2_with fail
  refine (read_nil 0 w8).mono ?_
  rintro e w9 ⟨rfl, rfl⟩
  go_wp2_with fail
  refine (ops_nil w8).mono ?_
  rintro e w9 ⟨rfl, rfl⟩
  go_wp2_with fail
  refine (size_nil w8).mono ?_
  rintro e w9 ⟨rfl, rfl⟩
  go_wp2_with fail
  refine (known_any w8).mono ?_
  rintro e w9 ⟨rfl, hb⟩
  have HB := Lib.hid (H8.out.below hb).old
  clear hb
  go_wp2_with fail
  go_ret
  exact ⟨rfl, HB.out⟩

/-- THE LAW's WALK. -/
theorem own_law (p : Option Addr) (c : Nat) (l : List UInt8) (w : World) (h : Row w (.slice p l.length c) l) :
    Calls Try.prog 4 #[.slice p l.length c] w fun e w' => e = .returned (.bool true) ∧ Below w.heap.size w w' := by
  by_cases h16 : l.length ≤ 16
  · exact own_in p c l w h h16
  · exact own_out p c l w h (by omega)
end Go.Proofs.Ytjeplggpogjlpaa
