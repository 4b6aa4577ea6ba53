/-
  Proved: what slot's Room, Save, Load answer and make of a disk, by its model, and what they leave as it was. Conditions: the disk lies in memory; what is handed in can be read; so many writes and operations were not yet that their number would wrap.
-/
import Derived.Test.YtffjdpkgcgdfdaaSpanSt
import Derived.Test.YtffjdpkgcgdfdaaSlotMath
namespace Go.Proofs.Ytffjdpkgcgdfdaa
open Go Go.RowKit DiskMath NetMem SpanMath SumMath

theorem room_at {w : World} {D : Nat → Prop} {p : Value} {d : Dk} (h : DiskAt w D p d) :
    Calls Try.prog 13 #[p] w fun e w' => e = .returned (.int .i64 (room d : Nat)) ∧ w = w' := by
  have hl : d.s.length ≤ 4000 := by obtain ⟨g, s, pv, lv, rfl, hm, -, -⟩ := h; exact hm.secs.2.2.2.1
  have HS := Lib.hid (size_at h)
  have h0 : (0 : Int) ≤ (d.s.length : Int) := by omega
  have h1 : (d.s.length : Int) ≤ 4000 := by omega
  have HR := Lib.hid (show (d.s.length : Int) * 3 / 8 = ((room d : Nat) : Int) from by unfold room; omega)
  clear h hl
  go_enter Try.func13, Try.ntmps13
  go_wp2_with fail
  refine HS.out.mono ?_
  rintro e w1 ⟨rfl, rfl⟩
  go_wp2_with fail
  go_ret
  exact ⟨ret_int (by have := HR.out; omega), rfl⟩
theorem room_le {w : World} {D : Nat → Prop} {p : Value} {d : Dk} (h : DiskAt w D p d) : room d ≤ 1500 := by
  have hl : d.s.length ≤ 4000 := by obtain ⟨g, s, pv, lv, rfl, hm, -, -⟩ := h; exact hm.secs.2.2.2.1
  unfold room; omega
theorem place_at {w : World} {D : Nat → Prop} {p : Value} {d : Dk} (h : DiskAt w D p d) (i : Int) (h0 : 0 ≤ i) (h1 : i ≤ 1) :
    Calls Try.prog 23 #[p, .int .i64 i] w fun e w' => e = .returned (.int .i64 (i * (room d : Nat))) ∧ w = w' := by
  have HS := Lib.hid (room_at h)
  have hr := room_le h
  obtain ⟨R, hR⟩ : ∃ R : Int, R = ((room d : Nat) : Int) := ⟨_, rfl⟩
  rw [← hR] at HS ⊢
  have r0 : 0 ≤ R := by omega
  have r1 : R ≤ 1500 := by omega
  have hm : 0 ≤ i * R ∧ i * R ≤ 1500 := by
    obtain rfl | rfl : i = 0 ∨ i = 1 := by omega
    · omega
    · omega
  obtain ⟨M, hM⟩ : ∃ M : Int, M = i * R := ⟨_, rfl⟩
  rw [← hM] at hm ⊢
  have m0 := hm.1
  have m1 := hm.2
  have HM := Lib.hid hM
  clear h hr hR hM hm
  go_enter Try.func23, Try.ntmps23
  go_wp2_with fail
  refine HS.out.mono ?_
  rintro e w1 ⟨rfl, rfl⟩
  go_wp2_with fail
  go_ret
  refine ⟨?_, rfl⟩
  show Ending.returned (Value.int .i64 (wrap64 (i * R))) = _
  rw [← HM.out, IntWalk.wrap64_in M (by omega)]

set_option maxHeartbeats 2000000 in
theorem save_at {w : World} {D : Nat → Prop} {p : Value} {d : Dk} (h : DiskAt w D p d) (gen : Int) (q : Option Addr) (c : Nat) (l : List UInt8) (hr : RowO w D (.slice q l.length c) l)
    (hl : l.length ≤ 2147483648) (hn : d.n + l.length + 8 < 4611686018427387904) (hp : d.p.length + l.length + 8 < 4294967296) :
    Calls Try.prog 11 #[p, .int .i64 gen, .slice q l.length c] w fun e w' => e = .returned (.int .i64 (slotSave d gen l).1) ∧ Step D w w' p (slotSave d gen l).2 := by
  by_cases hg : gen < 1 ∨ 2147483647 < gen
  · have HM := Lib.hid (show slotSave d gen l = (1, d) from by unfold slotSave; rw [if_pos hg])
    rw [HM.out]
    have HS := Lib.hid (Step.same h)
    clear h hr hl hn hp
    rcases hg with hg | hg
    · go_enter Try.func11, Try.ntmps11
      go_wp2_with fail
      go_ret
      exact ⟨rfl, HS.out⟩
    · have hg1 : 1 ≤ gen := by omega
      go_enter Try.func11, Try.ntmps11
      go_wp2_with fail
      go_ret
      exact ⟨rfl, HS.out⟩
  · have g1 : 1 ≤ gen := by omega
    have g2 : gen ≤ 2147483647 := by omega
    have hrl := room_le h
    have HN := Lib.hid (need_any l.length w (by omega))
    have HR := Lib.hid (room_at h)
    have hl1 : (l.length : Int) ≤ 2147483648 := by omega
    by_cases hroom : room d < need l.length
    · have HM := Lib.hid (show slotSave d gen l = (4, d) from by unfold slotSave; rw [if_neg hg, if_pos hroom])
      rw [HM.out]
      have HS := Lib.hid (Step.same h)
      have hro : ((room d : Nat) : Int) < ((need l.length : Nat) : Int) := by omega
      clear h hr hl hn hp hg hroom
      go_enter Try.func11, Try.ntmps11
      go_wp2_with fail
      refine HN.out.mono ?_
      rintro e w1 ⟨rfl, rfl⟩
      go_wp2_with fail
      refine HR.out.mono ?_
      rintro e w1 ⟨rfl, rfl⟩
      go_wp2_with fail
      go_ret
      exact ⟨rfl, HS.out⟩
    · have hro : ((need l.length : Nat) : Int) ≤ ((room d : Nat) : Int) := by omega
      obtain ⟨at_, hat⟩ : ∃ at_ : Int, at_ = gen % 2 * ((room d : Nat) : Int) := ⟨_, rfl⟩
      have ha : 0 ≤ at_ ∧ at_ ≤ 1500 := by
        rw [hat]
        obtain h | h : gen % 2 = 0 ∨ gen % 2 = 1 := by omega
        · rw [h]; omega
        · rw [h]; omega
      have HP := Lib.hid (place_at h (gen % 2) (by omega) (by omega))
      rw [← hat] at HP
      have HM := Lib.hid (show slotSave d gen l = if (spanClear d at_).1 ≠ 0 then spanClear d at_ else spanPut (spanClear d at_).2 at_ ((room d : Nat) : Int) gen.toNat l from by unfold slotSave; rw [if_neg hg, if_neg hroom, hat])
      have HC := Lib.hid (clear_at h at_ (by omega) (by omega))
      obtain ⟨e1, d1, hd1⟩ : ∃ e1 d1, spanClear d at_ = (e1, d1) := ⟨_, _, rfl⟩
      have hcn := spanClear_n d at_
      have hcl := spanClear_len d at_
      rw [hd1] at HC HM hcn hcl
      have hr1 : room d1 = room d := by unfold room; rw [hcl]
      have HK := Lib.hid (And.intro h (And.intro hr (And.intro hn (And.intro hp (And.intro hcn (And.intro hr1 (And.intro hl ha)))))))
      have a0 := ha.1
      have a1 := ha.2
      clear h hr hn hp hcn hcl hd1 hr1 hrl ha hat hg hroom hl
      by_cases h0 : e1 = 0
      · subst h0
        have HT := Lib.hid (show ∀ W, Step D w W p d1 → Calls Try.prog 13 #[p] W fun e w' => e = .returned (.int .i64 (room d : Nat)) ∧ W = w' from fun W hs => by
          obtain ⟨E, hE, -, -⟩ := hs
          have := room_at hE
          rw [HK.out.2.2.2.2.2.1] at this
          exact this)
        have HQ := Lib.hid (show ∀ W, Step D w W p d1 → Calls Try.prog 25 #[p, .int .i64 at_, .int .i64 (room d : Nat), .int .u32 gen, .slice q l.length c] W fun e w' => e = .returned (.int .i64 (spanPut d1 at_ ((room d : Nat) : Int) gen.toNat l).1) ∧ Step D w w' p (spanPut d1 at_ ((room d : Nat) : Int) gen.toNat l).2 from fun W hs => by
          have hs0 := hs
          obtain ⟨E, hE, hk, hEk⟩ := hs
          obtain ⟨k1, k2, k3, k4, k5, k6, k7, k8⟩ := HK.out
          have k5' : d1.n ≤ d.n + 2 ∧ d1.p.length ≤ d.p.length + 1 := k5
          have := put_at hE at_ ((room d : Nat) : Int) (by omega) (by omega) gen.toNat (by omega) q c l (k2.step hk hEk) k7 (by omega) (by omega)
          rw [show ((gen.toNat : Nat) : Int) = gen by omega] at this
          exact this.mono fun e w' ⟨x1, x2⟩ => ⟨x1, by
            obtain ⟨E', hE', hk', hEk'⟩ := x2
            exact ⟨E', hE', hk.trans hk' hEk, fun i hi => (hEk' i hi).elim (hEk i) fun hh => .inr (Nat.le_trans hk.size hh)⟩⟩)
        go_enter Try.func11, Try.ntmps11
        go_wp2_with fail
        refine HN.out.mono ?_
        rintro e w1 ⟨rfl, rfl⟩
        go_wp2_with fail
        refine HR.out.mono ?_
        rintro e w1 ⟨rfl, rfl⟩
        go_wp2_with fail
        refine HP.out.mono ?_
        rintro e w1 ⟨rfl, rfl⟩
        go_wp2_with fail
        refine HC.out.mono ?_
        rintro e w2 ⟨rfl, hs⟩
        have HS2 := Lib.hid hs
        clear hs
        go_wp2_with fail
        refine (HT.out _ HS2.out).mono ?_
        rintro e w3 ⟨rfl, rfl⟩
        go_wp2_with fail
        refine (HQ.out _ HS2.out).mono ?_
        rintro e w4 ⟨rfl, hs⟩
        have HS4 := Lib.hid hs
        clear hs
        go_wp2_with fail
        go_ret
        rw [HM.out]
        exact ⟨rfl, HS4.out⟩
      · have h0b : (e1 != 0) = true := by simpa using h0
        have HM2 := Lib.hid (show slotSave d gen l = (e1, d1) from by rw [HM.out, if_pos h0])
        clear h0 HM
        go_enter Try.func11, Try.ntmps11
        go_wp2_with fail
        refine HN.out.mono ?_
        rintro e w1 ⟨rfl, rfl⟩
        go_wp2_with fail
        refine HR.out.mono ?_
        rintro e w1 ⟨rfl, rfl⟩
        go_wp2_with fail
        refine HP.out.mono ?_
        rintro e w1 ⟨rfl, rfl⟩
        go_wp2_with fail
        refine HC.out.mono ?_
        rintro e w2 ⟨rfl, hs⟩
        have HS2 := Lib.hid hs
        clear hs
        go_wp2_with fail
        go_ret
        rw [HM2.out]
        exact ⟨rfl, HS2.out⟩

/-! ### Load -/
def loads (d : Dk) : Nat → Option (Nat × List UInt8)
  | 0 => none
  | k + 1 => better (loads d k) (spanGet d ((k : Int) * (room d : Int)) (room d : Int))
theorem loads_two (d : Dk) : loads d 2 = slotLoad d := by
  show better (better none (spanGet d (((0 : Nat) : Int) * (room d : Int)) (room d : Int))) (spanGet d (((1 : Nat) : Int) * (room d : Int)) (room d : Int)) = _
  rw [show ((0 : Nat) : Int) * (room d : Int) = 0 by omega, show ((1 : Nat) : Int) * (room d : Int) = (room d : Int) by omega]
  rfl
theorem loads_lt (d : Dk) : ∀ k, genOf (loads d k) ≤ 2147483647
  | 0 => by simp [loads, genOf]
  | k + 1 => genOf_lt (loads_lt d k)
def LoadSaid (o : Option (Nat × List UInt8)) (w : World) (e : Ending) (w' : World) : Prop :=
  ∃ v, e = .returned (.tuple #[.int .i64 (genOf o : Int), v, .bool o.isSome]) ∧ NetMem.Own w' w.heap.size v (bytesOf o) ∧ Below w.heap.size w w'
def RelL (d : Dk) (w : World) (g v ok i : Value) (wr : World) : Prop :=
  ∃ k : Nat, k ≤ 2 ∧ g = .int .i64 (genOf (loads d k) : Int) ∧ ok = .bool (loads d k).isSome ∧ i = .int .i64 (k : Int) ∧ NetMem.Own wr w.heap.size v (bytesOf (loads d k)) ∧ Below w.heap.size w wr

set_option maxHeartbeats 2000000 in
set_option maxRecDepth 100000 in
theorem load_at {w : World} {D : Nat → Prop} {p : Value} {d : Dk} (h : DiskAt w D p d) :
    Calls Try.prog 17 #[p] w (LoadSaid (slotLoad d) w) := by
  have HD := Lib.hid h
  clear h
  go_enter Try.func17, Try.ntmps17
  go_wp2_with fail
  go_loopw [2, 3, 4, 9] (fun g v ok i wr => RelL d w g v ok i wr) (fun _ _ _ i _ => 2 - (intOf i).toNat)
  case atStart => exact ⟨0, by omega, rfl, rfl, rfl, NetMem.Own.nil _ _, Below.refl _ _⟩
  case round =>
    obtain ⟨k, hk, rfl, rfl, rfl, ho, hb⟩ := hrel
    by_cases hlt : k < 2
    · have hdr := HD.out.below hb
      have HP := Lib.hid (place_at hdr (k : Int) (by omega) (by omega))
      have HR := Lib.hid (room_at hdr)
      have HG := Lib.hid (get_at hdr ((k : Int) * (room d : Int)) (room d : Int))
      obtain ⟨o, hoo⟩ : ∃ o, o = loads d k := ⟨_, rfl⟩
      have hol := loads_lt d k
      rw [← hoo] at hol ho ⊢
      have hg0 : (genOf o : Int) ≤ 2147483647 := by omega
      obtain ⟨x, hx⟩ : ∃ x, x = spanGet d ((k : Int) * (room d : Int)) (room d : Int) := ⟨_, rfl⟩
      rw [← hx] at HG
      have HX := Lib.hid (show loads d (k + 1) = better o x from by rw [hoo, hx]; rfl)
      have HB := Lib.hid (And.intro ho hb)
      have hkb : (k : Int) < 2 := by omega
      have ht : ∀ t b, x = some (t, b) → t < 4294967296 := fun t b e => by
        have := (get_tag d _ _ t b (hx.symm.trans e)).1
        rw [← this]; exact getB_lt _
      clear ho hb hdr hoo hx hol hlt
      cases x with
      | none =>
        go_wp2_with fail
        refine HP.out.mono ?_
        rintro e w1 ⟨rfl, rfl⟩
        go_wp2_with fail
        refine HR.out.mono ?_
        rintro e w1 ⟨rfl, rfl⟩
        go_wp2_with fail
        refine HG.out.mono ?_
        rintro e w2 ⟨v2, rfl, ho2, hb2⟩
        have H2 := Lib.hid (And.intro ho2 hb2)
        clear ho2 hb2 ht
        go_wp2_with fail
        refine ⟨⟨k + 1, by omega, by rw [HX.out]; rfl, by rw [HX.out]; rfl, by go_num, ?_, HB.out.2.trans (H2.out.2.mono HB.out.2.size)⟩, by simp [intOf]; omega⟩
        rw [HX.out]
        exact HB.out.1.below H2.out.2
      | some tb =>
        obtain ⟨t, b⟩ := tb
        have HG : RowKit.Hid (Calls Try.prog 32 #[p, .int .i64 ((k : Int) * (room d : Int)), .int .i64 (room d : Int)] wr fun e w' => ∃ v, e = .returned (.tuple #[.int .u32 (t : Int), v, .bool true]) ∧ NetMem.Own w' wr.heap.size v b ∧ Below wr.heap.size wr w') := Lib.hid HG.out
        have ht1 := ht t b rfl
        obtain ⟨T, hT⟩ : ∃ T : Int, T = (t : Int) := ⟨_, rfl⟩
        obtain ⟨G, hG⟩ : ∃ G : Int, G = (genOf o : Int) := ⟨_, rfl⟩
        have t0 : 0 ≤ T := by omega
        have t1 : T ≤ 4294967295 := by omega
        have G0 : G ≤ 2147483647 := by omega
        have main : (T ≤ 2147483647 ∧ G < T ∧ better o (some (t, b)) = some (t, b)) ∨ (T ≤ 2147483647 ∧ T ≤ G ∧ better o (some (t, b)) = o) ∨ ((2147483647 : Int) < T ∧ better o (some (t, b)) = o) := by
          unfold better
          by_cases h1 : t ≤ 2147483647
          · by_cases h2 : genOf o < t
            · exact .inl ⟨by omega, by omega, by simp [h1, h2]⟩
            · exact .inr (.inl ⟨by omega, by omega, by simp [h2]⟩)
          · exact .inr (.inr ⟨by omega, by simp [h1]⟩)
        have HK := Lib.hid (And.intro hk (And.intro hT hG))
        rw [← hT] at HG
        rw [← hG]
        clear ht ht1 hk hg0 hT hG
        rcases main with ⟨m1, m2, m3⟩ | ⟨m1, m2, m3⟩ | ⟨m1, m3⟩
        · have HX2 := Lib.hid (HX.out.trans m3)
          clear m3 HX
          go_wp2_with fail
          refine HP.out.mono ?_
          rintro e w1 ⟨rfl, rfl⟩
          go_wp2_with fail
          refine HR.out.mono ?_
          rintro e w1 ⟨rfl, rfl⟩
          go_wp2_with fail
          refine HG.out.mono ?_
          rintro e w2 ⟨v2, rfl, ho2, hb2⟩
          have H2 := Lib.hid (And.intro ho2 hb2)
          clear ho2 hb2
          go_wp2_with fail
          refine ⟨⟨k + 1, by have := HK.out.1; omega, by rw [HX2.out, HK.out.2.1]; rfl, by rw [HX2.out]; rfl, by go_num, ?_, HB.out.2.trans (H2.out.2.mono HB.out.2.size)⟩, by simp [intOf]; omega⟩
          rw [HX2.out]
          exact H2.out.1.mono HB.out.2.size
        · have HX2 := Lib.hid (HX.out.trans m3)
          clear m3 HX
          go_wp2_with fail
          refine HP.out.mono ?_
          rintro e w1 ⟨rfl, rfl⟩
          go_wp2_with fail
          refine HR.out.mono ?_
          rintro e w1 ⟨rfl, rfl⟩
          go_wp2_with fail
          refine HG.out.mono ?_
          rintro e w2 ⟨v2, rfl, ho2, hb2⟩
          have H2 := Lib.hid (And.intro ho2 hb2)
          clear ho2 hb2
          go_wp2_with fail
          refine ⟨⟨k + 1, by have := HK.out.1; omega, by rw [HX2.out, HK.out.2.2], by rw [HX2.out], by go_num, ?_, HB.out.2.trans (H2.out.2.mono HB.out.2.size)⟩, by simp [intOf]; omega⟩
          rw [HX2.out]
          exact HB.out.1.below H2.out.2
        · have HX2 := Lib.hid (HX.out.trans m3)
          clear m3 HX
          go_wp2_with fail
          refine HP.out.mono ?_
          rintro e w1 ⟨rfl, rfl⟩
          go_wp2_with fail
          refine HR.out.mono ?_
          rintro e w1 ⟨rfl, rfl⟩
          go_wp2_with fail
          refine HG.out.mono ?_
          rintro e w2 ⟨v2, rfl, ho2, hb2⟩
          have H2 := Lib.hid (And.intro ho2 hb2)
          clear ho2 hb2
          go_wp2_with fail
          refine ⟨⟨k + 1, by have := HK.out.1; omega, by rw [HX2.out, HK.out.2.2], by rw [HX2.out], by go_num, ?_, HB.out.2.trans (H2.out.2.mono HB.out.2.size)⟩, by simp [intOf]; omega⟩
          rw [HX2.out]
          exact HB.out.1.below H2.out.2
    · obtain rfl : k = 2 := by omega
      have HB := Lib.hid (And.intro ho hb)
      rw [loads_two] at HB ⊢
      clear ho hb hlt hk
      go_wp2_with fail
      go_ret3
      exact ⟨_, rfl, HB.out.1, HB.out.2⟩

/-! ### Beside rows -/
theorem save_st {w0 W : World} {p : Value} {d d' : Dk} {rows : List (Value × List UInt8)} (h : St w0 W p d rows) (gen : Int) {q : Option Addr} {c : Nat} {l : List UInt8} (hr : Row w0 (.slice q l.length c) l) {e0 : Int} (he : slotSave d gen l = (e0, d'))
    (hl : l.length ≤ 2147483648) (hn : d.n + l.length + 8 < 4611686018427387904) (hp : d.p.length + l.length + 8 < 4294967296) :
    Calls Try.prog 11 #[p, .int .i64 gen, .slice q l.length c] W fun e w' => e = .returned (.int .i64 e0) ∧ St w0 w' p d' rows := by
  obtain ⟨D, hd, hbw, hD, hrr⟩ := h
  have := save_at hd gen q c l (rowO_old hbw hD hr) hl hn hp
  rw [he] at this
  exact this.mono fun e w' ⟨h1, h2⟩ => ⟨h1, St.of_step hbw hD hrr h2⟩
theorem save_own_st {w0 W : World} {p : Value} {d d' : Dk} {rows : List (Value × List UInt8)} (h : St w0 W p d rows) (gen : Int) {q : Option Addr} {n c : Nat} {l : List UInt8} (hr : (.slice q n c, l) ∈ rows) {e0 : Int} (he : slotSave d gen l = (e0, d'))
    (hl : l.length ≤ 2147483648) (hn : d.n + l.length + 8 < 4611686018427387904) (hp : d.p.length + l.length + 8 < 4294967296) :
    Calls Try.prog 11 #[p, .int .i64 gen, .slice q n c] W fun e w' => e = .returned (.int .i64 e0) ∧ St w0 w' p d' rows := by
  obtain ⟨D, hd, hbw, hD, hrr⟩ := h
  have hro : NetMem.Own W w0.heap.size (.slice q n c) l ∧ ∀ k, (Value.slice q n c).ownBlock = some k → ¬ D k := hrr _ hr
  obtain ⟨rfl, -⟩ := Row.nums hro.1.row
  have := save_at hd gen q c l (rowO_own hro.1 hro.2) hl hn hp
  rw [he] at this
  exact this.mono fun e w' ⟨h1, h2⟩ => ⟨h1, St.of_step hbw hD hrr h2⟩
theorem load_st {w0 W : World} {p : Value} {d : Dk} {rows : List (Value × List UInt8)} (h : St w0 W p d rows) {o : Option (Nat × List UInt8)} (he : slotLoad d = o) {z : Int} (hz : (genOf o : Int) = z) {ok : Bool} (hok : o.isSome = ok) {B : List UInt8} (hB : bytesOf o = B) :
    Calls Try.prog 17 #[p] W fun e w' => ∃ a c, e = .returned (.tuple #[.int .i64 z, .slice a B.length c, .bool ok]) ∧ St w0 w' p d ((.slice a B.length c, B) :: rows) := by
  have hh := h
  obtain ⟨D, hd, hbw, hD, hrr⟩ := h
  subst he hz hok hB
  refine (load_at hd).mono fun e w' ⟨v, h1, h2, h3⟩ => ?_
  have ho : NetMem.Own w' W.heap.size v (bytesOf (slotLoad d)) := h2
  obtain ⟨a, c, hv⟩ : ∃ a c, v = .slice a (bytesOf (slotLoad d)).length c := by
    rcases id ho with ⟨rfl, h0⟩ | ⟨g', cap', rfl, -⟩
    · exact ⟨none, 0, by rw [h0]; rfl⟩
    · exact ⟨_, _, rfl⟩
  subst hv
  exact ⟨a, c, h1, hh.more h3 ho⟩
theorem room_st {w0 W : World} {p : Value} {d : Dk} {rows : List (Value × List UInt8)} (h : St w0 W p d rows) {z : Int} (hz : ((room d : Nat) : Int) = z) :
    Calls Try.prog 13 #[p] W fun e w' => e = .returned (.int .i64 z) ∧ W = w' := by
  obtain ⟨D, hd, -⟩ := h
  subst hz
  exact room_at hd
end Go.Proofs.Ytffjdpkgcgdfdaa
