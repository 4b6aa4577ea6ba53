/-
  Proved: span's readBytes answers the bytes of the sectors behind one, in new memory. Conditions: the sectors are there.
-/
import Derived.Test.YtilplpjdbkipoaaGreatDoorSpanPut
namespace Go.Proofs.YtilplpjdbkipoaaGreatDoor
open Go Go.RowKit DiskMath NetMem SpanMath

theorem own_take {w : World} {B g n cap : Nat} {l : List UInt8} (h : NetMem.Own w B (.slice (some ⟨g, 0, none⟩) n cap) l) (m : Nat) (hm : m ≤ l.length) : NetMem.Own w B (.slice (some ⟨g, 0, none⟩) m cap) (l.take m) := by
  rcases h with ⟨h1, -⟩ | ⟨g', cap', hv, hB, hg, hlc, hcm, hf, hc⟩
  · simp at h1
  · simp only [Value.slice.injEq, Option.some.injEq, Addr.mk.injEq] at hv
    obtain ⟨⟨rfl, -, -⟩, rfl, rfl⟩ := hv
    have hl : (l.take m).length = m := by rw [List.length_take]; omega
    refine .inr ⟨g, cap, by rw [hl], hB, hg, by omega, hcm, hf, fun j hj => ?_⟩
    rw [hl] at hj
    rw [hc j (by omega), List.getElem_take]

def RelG (d : Dk) (at_ : Int) (m : Nat) (w : World) (v i : Value) (wr : World) : Prop :=
  ∃ k : Nat, k ≤ cnt m ∧ NetMem.Own wr w.heap.size v (gather d at_ k) ∧ i = .int .i64 (k : Int) ∧ Below w.heap.size w wr

theorem gather_length (d : Dk) (a m : Nat) (h : a + cnt m < d.s.length) (hs : ∀ x ∈ d.s, x.2.length = 16) : ∀ k, k ≤ cnt m → (gather d (a : Int) k).length = 16 * k
  | 0, _ => rfl
  | k + 1, hk => by
    rw [gather, List.length_append, gather_length d a m h hs k (by omega), show (a : Int) + 1 + (k : Int) = ((a + 1 + k : Nat) : Int) by omega, read_la d _ (by omega)]
    unfold la
    rw [List.getElem?_eq_getElem (by omega), Option.getD_some, hs _ (List.getElem_mem _)]
    omega
theorem DiskAt.secs {w : World} {D : Nat → Prop} {p : Value} {d : Dk} (h : DiskAt w D p d) : (∀ x ∈ d.s, x.1.length = 16 ∧ x.2.length = 16) ∧ d.s.length ≤ 4000 := by
  obtain ⟨g, s, pv, lv, rfl, hm, -⟩ := h
  exact ⟨hm.secs.2.2.1, hm.secs.2.2.2.1⟩

set_option maxHeartbeats 2000000 in
set_option maxRecDepth 100000 in
theorem readBytes_at {w : World} {D : Nat → Prop} {p : Value} {d : Dk} (h : DiskAt w D p d) (a m : Nat) (ha : a + cnt m < d.s.length) :
    Calls Tryz.prog 76 #[p, .int .i64 (a : Int), .int .i64 (m : Int)] w fun e w' => ∃ v, e = .returned v ∧ NetMem.Own w' w.heap.size v ((gather d (a : Int) (cnt m)).take m) ∧ Below w.heap.size w w' := by
  obtain ⟨i0, hi, hz0, hz1, hz2⟩ := info_parts infoB
  have hsec := h.secs
  have hgl := gather_length d a m ha (fun x hx => (hsec.1 x hx).2)
  have hcm := cnt_le m
  have hm0 : m ≤ 64000 := by omega
  have hc0 : cnt m ≤ 4000 := by omega
  have ha0 : a ≤ 4000 := by omega
  have HN := Lib.hid (need_any m w (by omega))
  have HS := Lib.hid (And.intro h (And.intro hgl hcm))
  have HI := Lib.hid (And.intro hi (And.intro hz0 (And.intro hz1 hz2)))
  have hne : (need m : Int) = 1 + (cnt m : Int) := by unfold need; omega
  have hn1 : (need m : Int) ≤ 4001 := by omega
  have hn2 : (1 : Int) ≤ (need m : Int) := by omega
  have HNE := Lib.hid hne
  clear h hsec hgl hi hz0 hz1 hz2 hne hcm ha
  go_enter Tryz.func76, Tryz.ntmps76
  go_wp2_with fail
  refine HN.out.mono ?_
  rintro e w1 ⟨rfl, rfl⟩
  go_wp2_with fail
  go_loopw [7, 12] (fun v i wr => RelG d (a : Int) m w v i wr) (fun _ i _ => cnt m - (intOf i).toNat)
  case atStart => exact ⟨0, by omega, NetMem.Own.nil _ _, rfl, Below.refl _ _⟩
  case round =>
    obtain ⟨k, hk, ho, rfl, hb⟩ := hrel
    by_cases hlt : k < cnt m
    · have hlt' : (k : Int) < (need m : Int) - 1 := by rw [HNE.out]; omega
      have hgk := HS.out.2.1 k (by omega)
      have hgk1 := HS.out.2.1 (k + 1) (by omega)
      rw [gather, List.length_append] at hgk1
      have HR := Lib.hid (read_at (HS.out.1.far (Kept.of_below (D := fun _ => False) (hb.mono (Nat.le_refl _))) fun _ _ h => h) ((a : Int) + 1 + (k : Int)))
      have HO := Lib.hid (And.intro ho (And.intro hb (show (gather d (a : Int) k).length + (d.read ((a : Int) + 1 + (k : Int))).length ≤ 140737488355328 by omega)))
      clear ho hb hgk hgk1
      go_wp2_with fail
      refine HR.out.mono ?_
      rintro e w2 ⟨v2, rfl, ho2, hb2⟩
      have HQ := Lib.hid (And.intro (HO.out.1.below hb2) (And.intro (Row.src (P := Tryz.prog) ho2.row Tryz.underlying56) (And.intro (HO.out.2.1.trans (hb2.mono HO.out.2.1.size)) HO.out.2.2)))
      clear ho2 hb2
      go_wp2_with (at_builtin; refine wpList_append_bytes _ rfl _ _ 56 56 rfl 5 i0 Tryz.underlying56 HI.out.1 HI.out.2.1 HI.out.2.2.1 HI.out.2.2.2 w.heap.size _ _ rfl HQ.out.1 _ _ rfl HQ.out.2.1 HQ.out.2.2.2 HQ.out.2.2.1.size ?_)
      intro v' w' ho3 hg3 hnil
      have HB := Lib.hid (And.intro ho3 (HQ.out.2.2.1.grown hg3 HQ.out.2.2.1.size (fun k hk => (HQ.out.1.lt k hk).1)))
      clear ho3 hg3 hnil
      go_wp2_with fail
      exact ⟨⟨k + 1, by omega, HB.out.1, by go_num, HB.out.2⟩, by simp [intOf]; omega⟩
    · obtain rfl : k = cnt m := by omega
      have hlt' : (need m : Int) - 1 ≤ ((cnt m : Nat) : Int) := by rw [HNE.out]; omega
      have hgk := HS.out.2.1 (cnt m) (Nat.le_refl _)
      have hle : m ≤ (gather d (a : Int) (cnt m)).length := by rw [hgk]; exact HS.out.2.2
      rcases id ho with ⟨rfl, h0⟩ | ⟨g, cap, rfl, hB, hg, hlc, hcm, hf, hc⟩
      · obtain rfl : m = 0 := by rw [h0] at hle; simpa using hle
        have HO := Lib.hid (And.intro ho hb)
        clear ho hb hgk hle h0
        go_wp2_with fail
        go_ret
        exact ⟨_, rfl, by rw [List.take_zero]; exact NetMem.Own.nil _ _, HO.out.2⟩
      · have HO := Lib.hid (And.intro (own_take ho m hle) hb)
        have hm1 : (m : Int) ≤ (cap : Int) := by omega
        clear ho hb hgk hf hc hB hg hcm
        go_wp2_with fail
        go_ret
        exact ⟨_, rfl, HO.out.1, HO.out.2⟩
end Go.Proofs.YtilplpjdbkipoaaGreatDoor
