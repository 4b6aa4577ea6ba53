/-
  Proved: the statements' own package of chapter 4: Put does to their disk what its model does. Conditions: the disk lies in memory; the bytes can be read and are no part of the disk; fewer than 2^31 of them.
-/
import Derived.Test.YtffjdpkgcgdfdaaRefPut
namespace Go.Proofs.Ytffjdpkgcgdfdaa
open Go Go.RowKit DiskMath NetMem SpanMath SumMath

def RelRP (w0 : World) (D : Nat → Prop) (p : Value) (d : Dk) (at_ : Int) (l : List UInt8) (w : World) (i : Value) (wr : World) : Prop :=
  ∃ (k M : Nat) (dk : Dk), k ≤ cnt l.length ∧ M = 16 * k ∧ i = .int .i64 (M : Int) ∧ putRows at_ ((rowsOf l).take k) d = (0, dk) ∧ RStep w0 D w wr p dk

set_option maxHeartbeats 4000000 in
set_option maxRecDepth 100000 in
theorem rput_at {w0 w : World} {D : Nat → Prop} {p : Value} {d : Dk} (h : RefAt w0 w D p d) (at_ room : Int) (ha : -9223372036854775808 ≤ at_) (hb : at_ ≤ 4611686018427387904) (tag : Nat) (ht : tag < 4294967296) (q : Option Addr) (c : Nat) (l : List UInt8) (hr : RowO w D (.slice q l.length c) l)
    (hl : l.length ≤ 2147483648) (hn : d.n + l.length + 4 < 4611686018427387904) (hp : d.p.length + l.length + 4 < 4294967296) :
    Calls Try.prog 28 #[p, .int .i64 at_, .int .i64 room, .int .u32 (tag : Int), .slice q l.length c] w fun e w' => e = .returned (.int .i64 (spanPut d at_ room tag l).1) ∧ RStep w0 D w w' p (spanPut d at_ room tag l).2 := by
  have HN := Lib.hid (refneed_any l.length w (by omega))
  have hl0 : (l.length : Int) ≤ 2147483648 := by omega
  by_cases hroom : room < (need l.length : Int)
  · rw [put_full d at_ room tag l hroom]
    have HS := Lib.hid (RStep.same h)
    clear h hr hl hn hp ha hb ht
    go_enter Try.func28, Try.ntmps28
    go_wp2_with fail
    refine HN.out.mono ?_
    rintro e w1 ⟨rfl, rfl⟩
    go_wp2_with fail
    go_ret
    exact ⟨rfl, HS.out⟩
  · have hmk := made16
    have hroom' : (need l.length : Int) ≤ room := by omega
    have HM := Lib.hid (show spanPut d at_ room tag l = if (putRows at_ (rowsOf l) d).1 ≠ 0 then putRows at_ (rowsOf l) d else if (putRows at_ (rowsOf l) d).2.flush.1 ≠ 0 then (putRows at_ (rowsOf l) d).2.flush else putHead (putRows at_ (rowsOf l) d).2.flush.2 at_ (headB tag l) from by unfold spanPut; rw [if_neg hroom])
    have HH := Lib.hid (And.intro h (And.intro hr (And.intro hn (And.intro hp (And.intro ht hl)))))
    clear h hr hl hn hp ht hroom
    go_enter Try.func28, Try.ntmps28
    go_wp2_with fail
    refine HN.out.mono ?_
    rintro e w1 ⟨rfl, rfl⟩
    go_wp2_with fail
    clear hroom'
    go_loopw [11] (fun i wr => RelRP w0 D p d at_ l w i wr) (fun i _ => l.length - (intOf i).toNat)
    case atStart => exact ⟨0, 0, d, by omega, rfl, rfl, rfl, RStep.same HH.out.1⟩
    case round =>
      obtain ⟨k, M, dk, hk, hM, rfl, hpr, hst⟩ := hrel
      have hrn := putRows_n ((rowsOf l).take k) at_ d
      rw [hpr] at hrn
      have htl : ((rowsOf l).take k).length = k := by rw [List.length_take, rowsOf_length]; omega
      rw [htl] at hrn
      have hcs := cnt_self l.length
      by_cases hlt : k < cnt l.length
      · have hml : M < l.length := by rw [hM]; exact (cnt_lt _ _).1 hlt
        have hsnoc : (rowsOf l).take (k + 1) = (rowsOf l).take k ++ [chunk l k] := by
          rw [List.take_succ_eq_append_getElem (by rw [rowsOf_length]; exact hlt), rowsOf_at]
        have hnext := putRows_snoc ((rowsOf l).take k) at_ (chunk l k) d
        rw [← hsnoc, hpr, htl] at hnext
        simp only [if_pos] at hnext
        obtain ⟨e1, d1, hwr⟩ : ∃ e1 d1, dk.write (at_ + (k : Int) + 1) (chunk l k) = (e1, d1) := ⟨_, _, rfl⟩
        rw [hwr] at hnext
        obtain ⟨bb, o, rfl, hrow⟩ : ∃ b o, q = some ⟨b, o, none⟩ ∧ ∀ i (h : i < l.length), w.cell? ⟨b, o + i, none⟩ = some (.int .u8 (l[i].toNat : Int)) := by
          obtain ⟨-, h1, -, h3⟩ := Row.nums HH.out.2.1.1
          exact h3 (by omega)
        obtain ⟨-, hlc, hcm, -⟩ := Row.nums HH.out.2.1.1
        have hq16 : (M : Int) / 16 = (k : Int) := by omega
        have m0 : (0 : Int) ≤ (M : Int) := by omega
        have m1 : (M : Int) < (l.length : Int) := by omega
        have m2 : (M : Int) ≤ (l.length : Int) := by omega
        have k0 : (0 : Int) ≤ (k : Int) := by omega
        have k1 : (k : Int) ≤ 2147483648 := by have := HH.out.2.2.2.2.2; omega
        have c1 : (l.length : Int) ≤ (c : Int) := by omega
        have HI := Lib.hid (And.intro Try.underlying27 sizeByte)
        have hrowr : ∀ i (h : i < l.length), wr.cell? ⟨bb, o + i, none⟩ = some (.int .u8 (l[i].toNat : Int)) := by
          obtain ⟨E, hd, hkp, hE⟩ := hst
          intro i hi
          have := (HH.out.2.1.step hkp hE).1
          obtain ⟨-, h1, -, h3⟩ := Row.nums this
          obtain ⟨b', o', hv, hc⟩ := h3 (by omega)
          simp only [Option.some.injEq, Addr.mk.injEq] at hv
          obtain ⟨rfl, rfl, -⟩ := hv
          exact hc i hi
        have HC := Lib.hid (And.intro (show (Lib.byteCells ((l.drop M).take 16)).length = Nat.min (l.length - M) 16 from by rw [bl, List.length_take, List.length_drop]; show min 16 _ = min _ 16; omega)
          (And.intro (show ∀ j v, (Lib.byteCells ((l.drop M).take 16))[j]? = some v → (wr.alloc zeroObj).cell? ((⟨bb, o + M, none⟩ : Addr).add j) = some v from fun j v hv => by
            have hj : j < ((l.drop M).take 16).length := by have := (List.getElem?_eq_some_iff.1 hv).1; rwa [bl] at this
            rw [bc_at _ j hj] at hv
            rw [List.length_take, List.length_drop] at hj
            rw [Lib.add_plain, ← hv]
            have h1 := hrowr (M + j) (by omega)
            rw [← Nat.add_assoc] at h1
            rw [World.cell?_alloc_lt _ _ _ (World.block_lt_of_cell? wr _ h1), h1]
            simp [List.getElem_take, List.getElem_drop])
          (And.intro (show (wr.alloc zeroObj).there wr.heap.size 0 (Lib.byteCells ((l.drop M).take 16)).length from fun j hj => by
            rw [bl, List.length_take] at hj
            rw [Nat.zero_add, new_cell, new_free, zeroCells_eq]
            refine ⟨?_, rfl⟩
            have : j < (Lib.byteCells zeroB).length := by rw [bl]; show j < 16; omega
            simp [this]) (show ∀ v ∈ Lib.byteCells ((l.drop M).take 16), v.oneCell' = true from oneCell_bytes _))))
        obtain ⟨W1, hW1⟩ : ∃ W1, W1 = (wr.alloc zeroObj).setCells wr.heap.size 0 (Lib.byteCells ((l.drop M).take 16)) := ⟨_, rfl⟩
        have hWb : Below wr.heap.size wr W1 := by
          rw [hW1]
          exact (((Kept.refl (fun _ => False) wr).alloc _).setCells (.inr (Nat.le_refl _)) _ _).below (fun _ h => h.elim) (Nat.le_refl _)
        have hpad : NetMem.Own W1 wr.heap.size (.slice (some ⟨wr.heap.size, 0, none⟩) 16 16) (chunk l k) := by
          have := padded_own wr 5 (l.drop M)
          rw [zeros16] at this
          rw [hW1]
          unfold chunk
          rw [← hM]
          exact this
        have hst1 := hst.below hWb
        have HW := Lib.hid (show Calls Try.prog 39 #[p, .int .i64 (at_ + 1 + (k : Int)), .slice (some ⟨wr.heap.size, 0, none⟩) 16 16] W1 fun e w' => e = .returned (.int .i64 e1) ∧ RStep w0 D w w' p d1 from by
          obtain ⟨E, hd, hkp, hE⟩ := hst1
          have := rwrite_at hd (at_ + 1 + (k : Int)) _ _ hpad.row (by have := HH.out.2.2.1; simp only at hrn; omega) (by have := HH.out.2.2.2.1; simp only at hrn; omega)
          rw [show at_ + 1 + (k : Int) = at_ + (k : Int) + 1 by omega, hwr] at this
          rw [show at_ + 1 + (k : Int) = at_ + (k : Int) + 1 by omega]
          exact this.mono fun e w' ⟨h1, h2⟩ => ⟨h1, RStep.on hkp hE h2⟩)
        have HX := Lib.hid (And.intro hnext (And.intro hM hlt))
        have HWW := Lib.hid hW1
        clear hrow hrowr hpr hst hrn htl hcs hsnoc hwr hpad hWb hst1 hW1 hml hlc hcm hM hlt
        go_wp2_with (refine wpList_copy_cells (by rfl) (.tmp 27) (.tmp 30) 27 27 (by rfl) 5 HI.out.1 HI.out.2 wr.heap.size 0 16 16 ⟨bb, o + M, none⟩ (l.length - M) (c - M) (by rfl) (by rfl) (Lib.byteCells ((l.drop M).take 16)) HC.out.1 HC.out.2.1 HC.out.2.2.1 HC.out.2.2.2 ?_)
        rw [← HWW.out]
        by_cases h0 : e1 = 0
        · subst h0
          refine HW.out.mono ?_
          rintro e w2 ⟨rfl, hs⟩
          have H2 := Lib.hid hs
          clear hs
          go_wp2_with fail
          refine ⟨⟨k + 1, M + 16, d1, HX.out.2.2, by have := HX.out.2.1; omega, by go_num, HX.out.1, H2.out⟩, by simp [intOf]; omega⟩
        · have h0b : (e1 != 0) = true := by simpa using h0
          have hstop := putRows_stop ((rowsOf l).take (k + 1)) ((rowsOf l).drop (k + 1)) at_ d (by rw [HX.out.1]; exact h0)
          rw [List.take_append_drop, HX.out.1] at hstop
          have HE := Lib.hid (show spanPut d at_ room tag l = (e1, d1) from by rw [HM.out, hstop]; exact if_pos h0)
          clear h0 hstop
          refine HW.out.mono ?_
          rintro e w2 ⟨rfl, hs⟩
          have H2 := Lib.hid hs
          clear hs
          go_wp2_with fail
          go_ret
          rw [HE.out]
          exact ⟨rfl, H2.out⟩
      · obtain rfl : k = cnt l.length := by omega
        have hall : (rowsOf l).take (cnt l.length) = rowsOf l := List.take_of_length_le (by rw [rowsOf_length]; omega)
        rw [hall] at hpr
        have hle := cnt_le l.length
        have m2 : (l.length : Int) ≤ (M : Int) := by omega
        have hfn := flush_n dk
        obtain ⟨e1, d1, hf⟩ : ∃ e1 d1, dk.flush = (e1, d1) := ⟨_, _, rfl⟩
        rw [hf] at hfn
        simp only at hrn hfn
        have HF := Lib.hid (show Calls Try.prog 40 #[p] wr fun e w' => e = .returned (.int .i64 e1) ∧ RStep w0 D w w' p d1 from by
          obtain ⟨E, hd, hkp, hE⟩ := hst
          have := rflush_at hd (by have := HH.out.2.2.1; omega)
          rw [hf] at this
          exact this.mono fun e w' ⟨h1, h2⟩ => ⟨h1, RStep.on hkp hE h2⟩)
        by_cases h0 : e1 = 0
        · subst h0
          have HE := Lib.hid (show spanPut d at_ room tag l = putHead d1 at_ (headB tag l) from by rw [HM.out, hpr]; simp only [hf]; simp)
          have HD := Lib.hid (show ∀ w2, RStep w0 D w w2 p d1 → Calls Try.prog 41 #[.int .u32 (tag : Int), .slice q l.length c] w2 fun e w' => ∃ v, e = .returned v ∧ (NetMem.Own w' w2.heap.size v (headB tag l) ∧ Below w2.heap.size w2 w') from fun w2 hs => by
            obtain ⟨E, hd, hkp, hE⟩ := hs
            exact rhead_any tag HH.out.2.2.2.2.1 q c l w2 (HH.out.2.1.step hkp hE).1 HH.out.2.2.2.2.2)
          have HL := Lib.hid (show ∀ w3 v, RStep w0 D w w3 p d1 → Row w3 v (headB tag l) → Calls Try.prog 38 #[p, .int .i64 at_, v] w3 fun e w' => e = .returned (.int .i64 (putHead d1 at_ (headB tag l)).1) ∧ RStep w0 D w w' p (putHead d1 at_ (headB tag l)).2 from fun w3 v hs hv => by
            obtain ⟨E, hd, hkp, hE⟩ := hs
            exact (rlast_at hd at_ hv (by have := HH.out.2.2.1; omega) (by have := HH.out.2.2.2.1; omega)).mono fun e w' ⟨h1, h2⟩ => ⟨h1, RStep.on hkp hE h2⟩)
          clear hpr hst hrn htl hcs hall hle hfn hf hlt hk hM
          go_wp2_with fail
          refine HF.out.mono ?_
          rintro e w2 ⟨rfl, hs⟩
          have H2 := Lib.hid hs
          clear hs
          go_wp2_with fail
          refine (HD.out _ H2.out).mono ?_
          rintro e w3 ⟨v3, rfl, ho3, hb3⟩
          have H3 := Lib.hid (And.intro ho3.row (H2.out.below hb3))
          clear ho3 hb3
          go_wp2_with fail
          refine (HL.out _ _ H3.out.2 H3.out.1).mono ?_
          rintro e w4 ⟨rfl, hs⟩
          have H4 := Lib.hid hs
          clear hs
          go_wp2_with fail
          go_ret
          rw [HE.out]
          exact ⟨rfl, H4.out⟩
        · have h0b : (e1 != 0) = true := by simpa using h0
          have HE := Lib.hid (show spanPut d at_ room tag l = (e1, d1) from by rw [HM.out, hpr]; simp only [hf]; simp [h0])
          clear hpr hst hrn htl hcs hall hle hfn hf hlt hk hM h0
          go_wp2_with fail
          refine HF.out.mono ?_
          rintro e w2 ⟨rfl, hs⟩
          have H2 := Lib.hid hs
          clear hs
          go_wp2_with fail
          go_ret
          rw [HE.out]
          exact ⟨rfl, H2.out⟩
end Go.Proofs.Ytffjdpkgcgdfdaa
