/-
  Proved: what the statements' own Room, Save, Load of chapter 5 answer and make of their disk, by its model, and what they leave as it was. Conditions: the disk lies in memory; what is handed in can be read; so many writes and operations were not yet that their number would wrap.
-/
import Derived.Test.YtffjdpkgcgdfdaaRefGet
import Derived.Test.YtffjdpkgcgdfdaaSlotCode
namespace Go.Proofs.Ytffjdpkgcgdfdaa
open Go Go.RowKit DiskMath NetMem SpanMath SumMath

theorem rget_at {w0 w : World} {D : Nat → Prop} {p : Value} {d : Dk} (h : RefAt w0 w D p d) (at_ room : Int) :
    Calls Try.prog 33 #[p, .int .i64 at_, .int .i64 room] w (GetSaid (spanGet d at_ room) w) := by
  by_cases hi : d.has at_ = true
  · have hb : 0 ≤ at_ ∧ at_ < (d.s.length : Int) := by simpa [Dk.has] using hi
    obtain ⟨a, rfl⟩ := Int.eq_ofNat_of_zero_le hb.1
    exact rget_in h a room (by omega)
  · have hi' : d.has at_ = false := by simpa using hi
    exact (rget_out h at_ room hi').mono fun e w' ⟨he, hw⟩ => by
      subst hw; subst he
      exact getSaid_none (by unfold spanGet; rw [if_pos hi']) (Below.refl _ _)

theorem rroom_at {w0 w : World} {D : Nat → Prop} {p : Value} {d : Dk} (h : RefAt w0 w D p d) :
    Calls Try.prog 14 #[p] w fun e w' => e = .returned (.int .i64 (room d : Nat)) ∧ w = w' := by
  have hl : d.s.length ≤ 4000 := h.max
  obtain ⟨g, a, c, rfl, hc⟩ := h.sectors
  have HR := Lib.hid (show (3 : Int) * (d.s.length : Int) / 8 = ((room d : Nat) : Int) from by unfold room; omega)
  obtain ⟨N, hN⟩ : ∃ N, N = d.s.length := ⟨_, rfl⟩
  rw [← hN] at hc HR hl
  have h0 : (0 : Int) ≤ (N : Int) := by omega
  have h1 : (N : Int) ≤ 4000 := by omega
  clear h hl hN
  go_enter Try.func14, Try.ntmps14
  go_wp2_with fail
  go_ret
  exact ⟨ret_int (by have := HR.out; omega), rfl⟩
theorem rroom_le {w0 w : World} {D : Nat → Prop} {p : Value} {d : Dk} (h : RefAt w0 w D p d) : room d ≤ 1500 := by
  have hl := h.max
  unfold room; omega

set_option maxHeartbeats 2000000 in
set_option maxRecDepth 100000 in
theorem rsave_at {w0 w : World} {D : Nat → Prop} {p : Value} {d : Dk} (h : RefAt w0 w D p d) (gen : Int) (q : Option Addr) (c : Nat) (l : List UInt8) (hr : RowO w D (.slice q l.length c) l)
    (hl : l.length ≤ 2147483648) (hn : d.n + l.length + 8 < 4611686018427387904) (hp : d.p.length + l.length + 8 < 4294967296) :
    Calls Try.prog 12 #[p, .int .i64 gen, .slice q l.length c] w fun e w' => e = .returned (.int .i64 (slotSave d gen l).1) ∧ RStep w0 D w w' p (slotSave d gen l).2 := by
  by_cases hg : gen < 1 ∨ 2147483647 < gen
  · have HM := Lib.hid (show slotSave d gen l = (1, d) from by unfold slotSave; rw [if_pos hg])
    rw [HM.out]
    have HS := Lib.hid (RStep.same h)
    clear h hr hl hn hp
    rcases hg with hg | hg
    · go_enter Try.func12, Try.ntmps12
      go_wp2_with fail
      go_ret
      exact ⟨rfl, HS.out⟩
    · have hg1 : 1 ≤ gen := by omega
      have hg2 : 2147483648 ≤ gen := by omega
      clear hg
      go_enter Try.func12, Try.ntmps12
      go_wp2_with fail
      go_ret
      exact ⟨rfl, HS.out⟩
  · have g1 : 1 ≤ gen := by omega
    have g2 : gen < 2147483648 := by omega
    have hrl := rroom_le h
    have HN := Lib.hid (refneed_any l.length w (by omega))
    have HR := Lib.hid (rroom_at h)
    have hl1 : (l.length : Int) ≤ 2147483648 := by omega
    obtain ⟨R, hR⟩ : ∃ R : Int, R = ((room d : Nat) : Int) := ⟨_, rfl⟩
    rw [← hR] at HR
    by_cases hroom : room d < need l.length
    · have HM := Lib.hid (show slotSave d gen l = (4, d) from by unfold slotSave; rw [if_neg hg, if_pos hroom])
      rw [HM.out]
      have HS := Lib.hid (RStep.same h)
      have hro : R < ((need l.length : Nat) : Int) := by omega
      clear h hr hl hn hp hg hroom hR
      go_enter Try.func12, Try.ntmps12
      go_wp2_with fail
      refine HN.out.mono ?_
      rintro e w1 ⟨rfl, rfl⟩
      go_wp2_with fail
      refine HR.out.mono ?_
      rintro e w1 ⟨rfl, rfl⟩
      go_wp2_with fail
      go_ret
      exact ⟨rfl, HS.out⟩
    · have hro : ((need l.length : Nat) : Int) ≤ R := by omega
      obtain ⟨at_, hat⟩ : ∃ at_ : Int, at_ = gen % 2 * R := ⟨_, rfl⟩
      have ha : 0 ≤ at_ ∧ at_ ≤ 1500 := by
        rw [hat]
        obtain h | h : gen % 2 = 0 ∨ gen % 2 = 1 := by omega
        · rw [h]; omega
        · rw [h]; omega
      have HM := Lib.hid (show slotSave d gen l = if (spanClear d at_).1 ≠ 0 then spanClear d at_ else spanPut (spanClear d at_).2 at_ R gen.toNat l from by unfold slotSave; rw [if_neg hg, if_neg hroom, hat, hR])
      have HC := Lib.hid (rclear_at h at_ (by omega) (by omega))
      obtain ⟨e1, d1, hd1⟩ : ∃ e1 d1, spanClear d at_ = (e1, d1) := ⟨_, _, rfl⟩
      have hcn := spanClear_n d at_
      have hcl := spanClear_len d at_
      rw [hd1] at HC HM hcn hcl
      have hr1 : room d1 = room d := by unfold room; rw [hcl]
      have HK := Lib.hid (And.intro h (And.intro hr (And.intro hn (And.intro hp (And.intro hcn (And.intro hr1 (And.intro hl (And.intro ha hR))))))))
      have hwm : wrap64 (gen % 2 * R) = at_ := by rw [← hat]; exact IntWalk.wrap64_in _ (by omega)
      clear h hr hn hp hcn hcl hd1 hr1 hrl hat hg hroom hl hR
      by_cases h0 : e1 = 0
      · subst h0
        have HT := Lib.hid (show ∀ W, RStep w0 D w W p d1 → Calls Try.prog 14 #[p] W fun e w' => e = .returned (.int .i64 R) ∧ W = w' from fun W hs => by
          obtain ⟨E, hE, -, -⟩ := hs
          have := rroom_at hE
          rw [HK.out.2.2.2.2.2.1, ← HK.out.2.2.2.2.2.2.2.2] at this
          exact this)
        have HQ := Lib.hid (show ∀ W, RStep w0 D w W p d1 → Calls Try.prog 28 #[p, .int .i64 at_, .int .i64 R, .int .u32 gen, .slice q l.length c] W fun e w' => e = .returned (.int .i64 (spanPut d1 at_ R gen.toNat l).1) ∧ RStep w0 D w w' p (spanPut d1 at_ R gen.toNat l).2 from fun W hs => by
          obtain ⟨E, hE, hk, hEk⟩ := hs
          obtain ⟨k1, k2, k3, k4, k5, k6, k7, k8, k9⟩ := HK.out
          have k5' : d1.n ≤ d.n + 2 ∧ d1.p.length ≤ d.p.length + 1 := k5
          have := rput_at hE at_ R (by omega) (by omega) gen.toNat (by omega) q c l (k2.step hk hEk) k7 (by omega) (by omega)
          rw [show ((gen.toNat : Nat) : Int) = gen by omega] at this
          exact this.mono fun e w' ⟨x1, x2⟩ => ⟨x1, RStep.on hk hEk x2⟩)
        go_enter Try.func12, Try.ntmps12
        go_wp2_with fail
        refine HN.out.mono ?_
        rintro e w1 ⟨rfl, rfl⟩
        go_wp2_with fail
        refine HR.out.mono ?_
        rintro e w1 ⟨rfl, rfl⟩
        go_wp2_with fail
        refine HR.out.mono ?_
        rintro e w1 ⟨rfl, rfl⟩
        go_wp2_with fail
        refine HC.out.mono ?_
        rintro e w2 ⟨rfl, hs⟩
        have HS2 := Lib.hid hs
        clear hs
        go_wp2_with fail
        refine (HT.out _ HS2.out).mono ?_
        rintro e w3 ⟨rfl, rfl⟩
        go_wp2_with fail
        refine (HQ.out _ HS2.out).mono ?_
        rintro e w4 ⟨rfl, hs⟩
        have HS4 := Lib.hid hs
        clear hs
        go_wp2_with fail
        go_ret
        rw [HM.out]
        exact ⟨rfl, HS4.out⟩
      · have h0b : (e1 != 0) = true := by simpa using h0
        have HM2 := Lib.hid (show slotSave d gen l = (e1, d1) from by rw [HM.out, if_pos h0])
        clear h0 HM
        go_enter Try.func12, Try.ntmps12
        go_wp2_with fail
        refine HN.out.mono ?_
        rintro e w1 ⟨rfl, rfl⟩
        go_wp2_with fail
        refine HR.out.mono ?_
        rintro e w1 ⟨rfl, rfl⟩
        go_wp2_with fail
        refine HR.out.mono ?_
        rintro e w1 ⟨rfl, rfl⟩
        go_wp2_with fail
        refine HC.out.mono ?_
        rintro e w2 ⟨rfl, hs⟩
        have HS2 := Lib.hid hs
        clear hs
        go_wp2_with fail
        go_ret
        rw [HM2.out]
        exact ⟨rfl, HS2.out⟩

/-! ### Load -/
def RelLL (d : Dk) (w : World) (g v i : Value) (wr : World) : Prop :=
  ∃ (k : Nat) (v0 : Value), v0 = v ∧ k ≤ 2 ∧ g = .int .i64 (genOf (loads d k) : Int) ∧ i = .int .i64 (k : Int) ∧ NetMem.Own wr w.heap.size v0 (bytesOf (loads d k)) ∧ Below w.heap.size w wr
theorem loads_pos (d : Dk) : ∀ k, (loads d k).isSome = decide (0 < genOf (loads d k))
  | 0 => rfl
  | k + 1 => by
    have ih := loads_pos d k
    show (better (loads d k) _).isSome = decide (0 < genOf (better (loads d k) _))
    unfold better
    split
    · rename_i t b _
      split
      · rename_i h
        have : 0 < t := by omega
        simp [genOf, this]
      · exact ih
    · exact ih

set_option maxHeartbeats 2000000 in
set_option maxRecDepth 100000 in
theorem rload_at {w0 w : World} {D : Nat → Prop} {p : Value} {d : Dk} (h : RefAt w0 w D p d) :
    Calls Try.prog 18 #[p] w (LoadSaid (slotLoad d) w) := by
  have HD := Lib.hid h
  have hrl := rroom_le h
  obtain ⟨R, hR⟩ : ∃ R : Int, R = ((room d : Nat) : Int) := ⟨_, rfl⟩
  have HRR := Lib.hid hR
  have r0 : 0 ≤ R := by omega
  have r1 : R ≤ 1500 := by omega
  clear h hrl hR
  go_enter Try.func18, Try.ntmps18
  go_wp2_with fail
  go_loopw [5, 6, 7] (fun g v i wr => RelLL d w g v i wr) (fun _ _ i _ => 2 - (intOf i).toNat)
  case atStart => exact ⟨0, _, rfl, by omega, rfl, rfl, NetMem.Own.nil _ _, Below.refl _ _⟩
  case round =>
    obtain ⟨k, v, rfl, hk, rfl, rfl, ho, hb⟩ := hrel
    by_cases hlt : k < 2
    · have hdr := HD.out.below hb
      have HR := Lib.hid (rroom_at hdr)
      rw [← HRR.out] at HR
      have HG := Lib.hid (rget_at hdr ((k : Int) * R) R)
      obtain ⟨o, hoo⟩ : ∃ o, o = loads d k := ⟨_, rfl⟩
      have hol := loads_lt d k
      rw [← hoo] at hol ho ⊢
      obtain ⟨x, hx⟩ : ∃ x, x = spanGet d ((k : Int) * R) R := ⟨_, rfl⟩
      rw [← hx] at HG
      have HX := Lib.hid (show loads d (k + 1) = better o x from by rw [hoo, hx, HRR.out]; rfl)
      have HB := Lib.hid (And.intro ho (And.intro hb hk))
      have hkb : (k : Int) < 2 := by omega
      have k0 : (0 : Int) ≤ (k : Int) := by omega
      have hwk : wrap64 ((k : Int) * R) = (k : Int) * R := IntWalk.wrap64_in _ (by
        obtain rfl | rfl : k = 0 ∨ k = 1 := by omega
        · omega
        · omega)
      obtain ⟨at_, hat⟩ : ∃ at_ : Int, at_ = (k : Int) * R := ⟨_, rfl⟩
      rw [← hat] at HG
      have hwk2 : wrap64 ((k : Int) * R) = at_ := hwk.trans hat.symm
      have ht : ∀ t b, x = some (t, b) → t < 4294967296 := fun t b e => by
        have := (get_tag d _ _ t b (hx.symm.trans e)).1
        rw [← this]; exact getB_lt _
      clear ho hb hdr hoo hx hlt hwk hat hk
      cases x with
      | none =>
        have HK := Lib.hid hol
        clear hol ht
        go_wp2_with fail
        refine HR.out.mono ?_
        rintro e w1 ⟨rfl, rfl⟩
        go_wp2_with fail
        refine HR.out.mono ?_
        rintro e w1 ⟨rfl, rfl⟩
        go_wp2_with fail
        refine HG.out.mono ?_
        rintro e w2 ⟨v2, rfl, ho2, hb2⟩
        have H2 := Lib.hid (And.intro ho2 hb2)
        clear ho2 hb2
        go_wp2_with fail
        refine ⟨⟨k + 1, _, rfl, by omega, by rw [HX.out]; rfl, by go_num, ?_, HB.out.2.1.trans (H2.out.2.mono HB.out.2.1.size)⟩, by simp [intOf]; omega⟩
        rw [HX.out]
        exact HB.out.1.below H2.out.2
      | some tb =>
        obtain ⟨t, b⟩ := tb
        have HG : RowKit.Hid (Calls Try.prog 33 #[p, .int .i64 at_, .int .i64 R] wr fun e w' => ∃ v, e = .returned (.tuple #[.int .u32 (t : Int), v, .bool true]) ∧ NetMem.Own w' wr.heap.size v b ∧ Below wr.heap.size wr w') := Lib.hid HG.out
        have ht1 := ht t b rfl
        obtain ⟨T, hT⟩ : ∃ T : Int, T = (t : Int) := ⟨_, rfl⟩
        obtain ⟨G, hG⟩ : ∃ G : Int, G = (genOf o : Int) := ⟨_, rfl⟩
        have t0 : 0 ≤ T := by omega
        have t1 : T ≤ 4294967295 := by omega
        have G0 : G ≤ 2147483647 := by omega
        have main : (T < 2147483648 ∧ G < T ∧ better o (some (t, b)) = some (t, b)) ∨ (T < 2147483648 ∧ T ≤ G ∧ better o (some (t, b)) = o) ∨ ((2147483648 : Int) ≤ T ∧ better o (some (t, b)) = o) := by
          unfold better
          by_cases h1 : t ≤ 2147483647
          · by_cases h2 : genOf o < t
            · exact .inl ⟨by omega, by omega, by simp [h1, h2]⟩
            · exact .inr (.inl ⟨by omega, by omega, by simp [h2]⟩)
          · exact .inr (.inr ⟨by omega, by simp [h1]⟩)
        have HK := Lib.hid (And.intro hT hG)
        rw [← hT] at HG
        rw [← hG]
        clear ht ht1 hol hT hG
        rcases main with ⟨m1, m2, m3⟩ | ⟨m1, m2, m3⟩ | ⟨m1, m3⟩
        · have HX2 := Lib.hid (HX.out.trans m3)
          clear m3 HX
          go_wp2_with fail
          refine HR.out.mono ?_
          rintro e w1 ⟨rfl, rfl⟩
          go_wp2_with fail
          refine HR.out.mono ?_
          rintro e w1 ⟨rfl, rfl⟩
          go_wp2_with fail
          refine HG.out.mono ?_
          rintro e w2 ⟨v2, rfl, ho2, hb2⟩
          have H2 := Lib.hid (And.intro ho2 hb2)
          clear ho2 hb2
          go_wp2_with fail
          refine ⟨⟨k + 1, _, rfl, by omega, by rw [HX2.out, HK.out.1]; rfl, by go_num, ?_, HB.out.2.1.trans (H2.out.2.mono HB.out.2.1.size)⟩, by simp [intOf]; omega⟩
          rw [HX2.out]
          exact H2.out.1.mono HB.out.2.1.size
        · have HX2 := Lib.hid (HX.out.trans m3)
          clear m3 HX
          go_wp2_with fail
          refine HR.out.mono ?_
          rintro e w1 ⟨rfl, rfl⟩
          go_wp2_with fail
          refine HR.out.mono ?_
          rintro e w1 ⟨rfl, rfl⟩
          go_wp2_with fail
          refine HG.out.mono ?_
          rintro e w2 ⟨v2, rfl, ho2, hb2⟩
          have H2 := Lib.hid (And.intro ho2 hb2)
          clear ho2 hb2
          go_wp2_with fail
          refine ⟨⟨k + 1, _, rfl, by omega, by rw [HX2.out, HK.out.2], by go_num, ?_, HB.out.2.1.trans (H2.out.2.mono HB.out.2.1.size)⟩, by simp [intOf]; omega⟩
          rw [HX2.out]
          exact HB.out.1.below H2.out.2
        · have HX2 := Lib.hid (HX.out.trans m3)
          clear m3 HX
          go_wp2_with fail
          refine HR.out.mono ?_
          rintro e w1 ⟨rfl, rfl⟩
          go_wp2_with fail
          refine HR.out.mono ?_
          rintro e w1 ⟨rfl, rfl⟩
          go_wp2_with fail
          refine HG.out.mono ?_
          rintro e w2 ⟨v2, rfl, ho2, hb2⟩
          have H2 := Lib.hid (And.intro ho2 hb2)
          clear ho2 hb2
          go_wp2_with fail
          refine ⟨⟨k + 1, _, rfl, by omega, by rw [HX2.out, HK.out.2], by go_num, ?_, HB.out.2.1.trans (H2.out.2.mono HB.out.2.1.size)⟩, by simp [intOf]; omega⟩
          rw [HX2.out]
          exact HB.out.1.below H2.out.2
    · obtain rfl : k = 2 := by omega
      have HB := Lib.hid (And.intro ho hb)
      have HP := Lib.hid (loads_pos d 2)
      rw [loads_two] at HB HP ⊢
      obtain ⟨o, hoo⟩ : ∃ o, o = slotLoad d := ⟨_, rfl⟩
      have HOO := Lib.hid hoo
      rw [← hoo] at HB HP ⊢
      obtain ⟨G, hG⟩ : ∃ G : Int, G = (genOf o : Int) := ⟨_, rfl⟩
      rw [← hG]
      have HGG := Lib.hid hG
      clear ho hb hlt hk hoo hG
      go_wp2_with fail
      go_ret3
      rw [← HOO.out]
      refine ⟨_, ?_, HB.out.1, HB.out.2⟩
      rw [HP.out]
      simp [HGG.out]
end Go.Proofs.Ytffjdpkgcgdfdaa
