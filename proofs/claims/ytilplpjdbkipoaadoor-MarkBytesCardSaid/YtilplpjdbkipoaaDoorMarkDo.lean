/-
  Proved: mark's Append makes of a disk what its model says. Conditions: the disk lies in memory; the mark's numbers fit, its text is of at most 900000 bytes; so many writes and operations were not yet that their number would wrap; the library's table and its two sentinel errors read as laid.
-/
import Derived.Test.YtilplpjdbkipoaaDoorMarkRead
import Derived.Test.YtilplpjdbkipoaaDoorMarkDisk
namespace Go.Proofs.YtilplpjdbkipoaaDoor
open Go Go.RowKit DiskMath NetMath NetMem SpanMath SumMath MarkMath

theorem room_at {w : World} {D : Nat → Prop} {p : Value} {d : Dk} (h : DiskAt w D p d) :
    Calls Tryd.prog 49 #[p] w fun e w' => e = .returned (.int .i64 (room d : Nat)) ∧ w = w' := by
  have hl : d.s.length ≤ 4000 := by obtain ⟨g, s, pv, lv, rfl, hm, -, -⟩ := h; exact hm.secs.2.2.2.1
  have HS := Lib.hid (size_at h)
  have h0 : (0 : Int) ≤ (d.s.length : Int) := by omega
  have h1 : (d.s.length : Int) ≤ 4000 := by omega
  have HR := Lib.hid (show (d.s.length : Int) * 3 / 8 = ((room d : Nat) : Int) from by unfold room; omega)
  clear h hl
  go_enter Tryd.func49, Tryd.ntmps49
  go_wp2_with fail
  refine HS.out.mono ?_
  rintro e w1 ⟨rfl, rfl⟩
  go_wp2_with fail
  go_ret
  exact ⟨ret_int (by have := HR.out; omega), rfl⟩
theorem room_le {w : World} {D : Nat → Prop} {p : Value} {d : Dk} (h : DiskAt w D p d) : room d ≤ 1500 := by
  have hl : d.s.length ≤ 4000 := by obtain ⟨g, s, pv, lv, rfl, hm, -, -⟩ := h; exact hm.secs.2.2.2.1
  unfold room; omega

theorem first_at {w : World} {D : Nat → Prop} {p : Value} {d : Dk} (h : DiskAt w D p d) :
    Calls Tryd.prog 35 #[p] w fun e w' => e = .returned (.int .i64 (jFrom d)) ∧ w = w' := by
  have HS := Lib.hid (room_at h)
  have hr := room_le h
  obtain ⟨R, hR⟩ : ∃ R : Int, R = ((room d : Nat) : Int) := ⟨_, rfl⟩
  rw [← hR] at HS
  have r0 : 0 ≤ R := by omega
  have r1 : R ≤ 1500 := by omega
  have HM := Lib.hid (show jFrom d = 2 * R from by unfold jFrom; rw [hR])
  clear h hr hR
  go_enter Tryd.func35, Tryd.ntmps35
  go_wp2_with fail
  refine HS.out.mono ?_
  rintro e w1 ⟨rfl, rfl⟩
  go_wp2_with fail
  go_ret
  exact ⟨by rw [HM.out]; rfl, rfl⟩
theorem tag_any (g : Int) (h0 : 0 ≤ g) (h1 : g ≤ 2147483646) (z : Int) (hz : z = g + 1) (w : World) :
    Calls Tryd.prog 40 #[.int .i64 g] w fun e w' => e = .returned (.int .u32 z) ∧ w = w' := by
  subst hz
  go_enter Tryd.func40, Tryd.ntmps40
  go_wp2_with fail
  go_ret
  refine ⟨?_, rfl⟩
  first | rfl | (simp; done)

/-- The sector behind is cleared, if there is one. -/
def clearB (d : Dk) (z : Nat) : Int × Dk := if z = d.s.length then (0, d) else spanClear d (z : Int)
theorem clearB_at {w : World} {D : Nat → Prop} {p : Value} {d : Dk} (h : DiskAt w D p d) (z : Nat) (hn : d.n + 1 < 4611686018427387904) (hp : d.p.length < 4294967296) :
    Calls Tryd.prog 38 #[p, .int .i64 (z : Int)] w fun e w' => e = .returned (.int .i64 (clearB d z).1) ∧ Step D w w' p (clearB d z).2 := by
  have hl : d.s.length ≤ 4000 := by obtain ⟨g, s, pv, lv, rfl, hm, -, -⟩ := h; exact hm.secs.2.2.2.1
  have HS := Lib.hid (size_at h)
  have HC := Lib.hid (clear_at h (z : Int) hn hp)
  have HT := Lib.hid (Step.same h)
  by_cases e : z = d.s.length
  · have HM := Lib.hid (show clearB d z = (0, d) from by unfold clearB; rw [if_pos e])
    rw [HM.out]
    have hb : ((z : Int) == (d.s.length : Int)) = true := by simp [e]
    have hb2 : (z : Int) = (d.s.length : Int) := by omega
    rw [← hb2] at HS
    clear h hl e hn hp hb
    go_enter Tryd.func38, Tryd.ntmps38
    go_wp2_with fail
    refine HS.out.mono ?_
    rintro e w1 ⟨rfl, rfl⟩
    go_wp2_with fail
    go_ret
    exact ⟨rfl, HT.out⟩
  · have HM := Lib.hid (show clearB d z = spanClear d (z : Int) from by unfold clearB; rw [if_neg e])
    rw [HM.out]
    have hb : ((z : Int) == (d.s.length : Int)) = false := by simp; omega
    obtain ⟨N, hN⟩ : ∃ N : Int, N = (d.s.length : Int) := ⟨_, rfl⟩
    obtain ⟨Z, hZ⟩ : ∃ Z : Int, Z = (z : Int) := ⟨_, rfl⟩
    rw [← hN] at HS hb
    rw [← hZ] at HC hb ⊢
    clear h hl e hn hp hN hZ HM
    go_enter Tryd.func38, Tryd.ntmps38
    go_wp2_with fail
    refine HS.out.mono ?_
    rintro e w1 ⟨rfl, rfl⟩
    go_wp2_with fail
    refine HC.out.mono ?_
    rintro e w2 ⟨rfl, hs⟩
    have H2 := Lib.hid hs
    clear hs
    go_wp2_with fail
    go_ret
    exact ⟨rfl, H2.out⟩
theorem append_in (d : Dk) (a : Nat) (m : Mk) (hm : m.is = true) (h0 : jFrom d ≤ (a : Int)) (h1 : a + need m.raw.length ≤ d.s.length) :
    markAppend d a m = if (clearB d (a + need m.raw.length)).1 ≠ 0 then (0, clearB d (a + need m.raw.length))
      else if (spanPut (clearB d (a + need m.raw.length)).2 a ((d.s.length : Int) - a) (m.gen.toNat + 1) m.raw).1 ≠ 0 then (0, spanPut (clearB d (a + need m.raw.length)).2 a ((d.s.length : Int) - a) (m.gen.toNat + 1) m.raw)
      else (((a + need m.raw.length : Nat) : Int), spanPut (clearB d (a + need m.raw.length)).2 a ((d.s.length : Int) - a) (m.gen.toNat + 1) m.raw) := by
  have hn : need m.raw.length = 1 + cnt m.raw.length := rfl
  have e : (a : Int) + (need m.raw.length : Int) = ((a + need m.raw.length : Nat) : Int) := by omega
  unfold markAppend clearB
  rw [hm, if_neg (by simp; omega), if_neg (by omega), e]
  by_cases hz : d.s.length = a + need m.raw.length
  · rw [if_pos (by omega)]
    simp [if_pos hz.symm]
  · rw [if_neg (by omega)]
    simp only [if_neg (fun h : a + need m.raw.length = d.s.length => hz h.symm)]

/-- The way through Append: the disk, the bytes to be put, the mark's box. -/
def AppS (D : Nat → Prop) (w2 : World) (p : Value) (v : Value) (l : List UInt8) (B : Nat) (m : Mk) (W : World) (d' : Dk) : Prop :=
  ∃ E, DiskAt W E p d' ∧ Kept D w2 W ∧ (∀ i, E i → D i ∨ w2.heap.size ≤ i) ∧ RowO W E v l ∧ W.cell? ⟨B, 0, none⟩ = some (.int .i64 m.gen) ∧ ¬ E B
theorem AppS.step {D : Nat → Prop} {w2 : World} {p : Value} {v : Value} {l : List UInt8} {B : Nat} {m : Mk} {W W' : World} {d1 d2 : Dk} (h : AppS D w2 p v l B m W d1) (hB : B < w2.heap.size) (hs : ∀ E, DiskAt W E p d1 → RowO W E v l → Step E W W' p d2) : AppS D w2 p v l B m W' d2 := by
  obtain ⟨E, hd, hk, hE, hr, hc, hn⟩ := h
  obtain ⟨E', hd', hk', hE'⟩ := hs E hd hr
  exact ⟨E', hd', hk.trans hk' hE, fun i hi => (hE' i hi).elim (hE i) fun h => .inr (Nat.le_trans hk.size h), hr.step hk' hE', hk'.cell hc hn, fun h => (hE' B h).elim hn fun h => by have := hk.size; omega⟩
theorem AppS.done {D : Nat → Prop} {w w2 : World} {p : Value} {v : Value} {l : List UInt8} {B : Nat} {m : Mk} {W : World} {d' : Dk} (h : AppS D w2 p v l B m W d') (hb : Below w.heap.size w w2) : Step D w W p d' := by
  obtain ⟨E, hd, hk, hE, -⟩ := h
  exact Step.ahead hb ⟨E, hd, hk, hE⟩
theorem AppS.disk {D : Nat → Prop} {w2 : World} {p : Value} {v : Value} {l : List UInt8} {B : Nat} {m : Mk} {W : World} {d' : Dk} (h : AppS D w2 p v l B m W d') : ∃ E, DiskAt W E p d' ∧ RowO W E v l := by
  obtain ⟨E, hd, -, -, hr, -⟩ := h
  exact ⟨E, hd, hr⟩
theorem AppS.cell {D : Nat → Prop} {w2 : World} {p : Value} {v : Value} {l : List UInt8} {B : Nat} {m : Mk} {W : World} {d' : Dk} (h : AppS D w2 p v l B m W d') : W.cell? ⟨B, 0, none⟩ = some (.int .i64 m.gen) := by
  obtain ⟨E, -, -, -, -, hc, -⟩ := h
  exact hc
theorem AppS.drew {D : Nat → Prop} {w2 : World} {p : Value} {v : Value} {l : List UInt8} {B : Nat} {m : Mk} {W : World} {d' : Dk} (h : AppS D w2 p v l B m W d') : AppS D w2 p v l B m W.drew d' := by
  obtain ⟨E, hd, hk, hE, hr, hc, hn⟩ := h
  have hb := below_drew W.heap.size W
  exact ⟨E, hd.below hb, hk.drew, hE, hr.below hb, hc, hn⟩

set_option maxHeartbeats 4000000 in
set_option maxRecDepth 100000 in
theorem append_at {w : World} {D : Nat → Prop} {p : Value} {d : Dk} (h : DiskAt w D p d) (at_ : Int) (gen n : Int) (done : Bool) (st : Int) (out : ByteArray) (hs : I64 st) (ho : out.size ≤ 900000) (hg : NetP.Glob w)
    (hn : d.n + 2000000 < 4611686018427387904) (hp : d.p.length + 2000000 < 4294967296) :
    Calls Tryd.prog 17 #[p, .int .i64 at_, .agg #[.int .i64 gen, .int .i64 n, .bool done, .int .i64 st, .string out]] w fun e w' =>
      e = .returned (.tuple #[.int .i64 (markAppend d at_ ⟨gen, n, done, st, out⟩).1, .int .i64 (markAppend d at_ ⟨gen, n, done, st, out⟩).2.1]) ∧ Step D w w' p (markAppend d at_ ⟨gen, n, done, st, out⟩).2.2 := by
  have hl : d.s.length ≤ 4000 := by obtain ⟨g, s, pv, lv, rfl, hm, -, -⟩ := h; exact hm.secs.2.2.2.1
  have hbox : Below w.heap.size w (w.alloc (.cells #[.int .i64 gen, .int .i64 n, .bool done, .int .i64 st, .string out] 25)) := (Below.refl _ _).alloc (Nat.le_refl _) _
  have HI := Lib.hid (fun W => isMark_any ⟨gen, n, done, st, out⟩ W)
  have HX := Lib.hid (And.intro h (And.intro hbox (And.intro hg (heap_alloc_new w (.cells #[.int .i64 gen, .int .i64 n, .bool done, .int .i64 st, .string out] 25)))))
  by_cases hm : Mk.is ⟨gen, n, done, st, out⟩ = true
  · rw [hm] at HI
    have HF := Lib.hid (fun W (hW : Below w.heap.size w W) => first_at (h.below hW))
    have HZ := Lib.hid (fun W (hW : Below w.heap.size w W) => size_at (h.below hW))
    obtain ⟨J, hJ⟩ : ∃ J, J = jFrom d := ⟨_, rfl⟩
    obtain ⟨N, hN⟩ : ∃ N : Int, N = (d.s.length : Int) := ⟨_, rfl⟩
    have j0 : 0 ≤ J := by rw [hJ]; unfold jFrom; omega
    have j1 : J ≤ 4000 := by rw [hJ]; unfold jFrom; have := room_le h; omega
    rw [← hJ] at HF
    rw [← hN] at HZ
    by_cases h1 : at_ < J
    · have HM := Lib.hid (append_out d at_ ⟨gen, n, done, st, out⟩ (.inr (.inl (by rw [← hJ]; exact h1))))
      rw [HM.out]
      clear hs ho hg hn hp h hl hbox hm hJ hN j0 j1
      go_enter Tryd.func17, Tryd.ntmps17
      go_wp2_with fail
      refine (HI.out _).mono ?_
      rintro e w1 ⟨rfl, hb1⟩
      have HB1 := Lib.hid (HX.out.2.1.trans (hb1.mono HX.out.2.1.size))
      clear hb1
      go_wp2_with fail
      refine (HF.out _ HB1.out).mono ?_
      rintro e w2 ⟨rfl, rfl⟩
      go_wp2_with fail
      go_ret2
      exact ⟨rfl, (Step.same HX.out.1).below HB1.out⟩
    · have h1' : J ≤ at_ := by omega
      by_cases h2 : N ≤ at_
      · have HM := Lib.hid (append_out d at_ ⟨gen, n, done, st, out⟩ (.inr (.inr (by rw [← hN]; exact h2))))
        rw [HM.out]
        clear hs ho hg hn hp h hl hbox hm hJ hN j0 j1 h1
        go_enter Tryd.func17, Tryd.ntmps17
        go_wp2_with fail
        refine (HI.out _).mono ?_
        rintro e w1 ⟨rfl, hb1⟩
        have HB1 := Lib.hid (HX.out.2.1.trans (hb1.mono HX.out.2.1.size))
        clear hb1
        go_wp2_with fail
        refine (HF.out _ HB1.out).mono ?_
        rintro e w2 ⟨rfl, rfl⟩
        go_wp2_with fail
        refine (HZ.out _ HB1.out).mono ?_
        rintro e w3 ⟨rfl, rfl⟩
        go_wp2_with fail
        go_ret2
        exact ⟨rfl, (Step.same HX.out.1).below HB1.out⟩
      · have h2' : at_ < N := by omega
        obtain ⟨a, rfl⟩ := Int.eq_ofNat_of_zero_le (show 0 ≤ at_ by omega)
        obtain ⟨g0, g1, n0, n1⟩ := is_gen hm
        simp only at g0 g1
        obtain ⟨L, hL⟩ : ∃ L, L = Mk.raw ⟨gen, n, done, st, out⟩ := ⟨_, rfl⟩
        have hlen := (raw_len ⟨gen, n, done, st, out⟩ ⟨by omega, by omega⟩ hs (show out.size ≤ 1000000 by omega)).2
        rw [← hL] at hlen
        simp only at hlen
        have hcl := cnt_self L.length
        have hne : need L.length = 1 + cnt L.length := rfl
        obtain ⟨K, hK⟩ : ∃ K : Int, K = ((need L.length : Nat) : Int) := ⟨_, rfl⟩
        obtain ⟨A, hA⟩ : ∃ A : Int, A = (a : Int) := ⟨_, rfl⟩
        have k0 : 0 ≤ K := by omega
        have k1 : K ≤ 1000000 := by omega
        have HB := Lib.hid (fun W hW => bytes_q ⟨gen, n, done, st, out⟩ hs ho W hW)
        rw [show Mk.bytes ⟨gen, n, done, st, out⟩ = L by unfold Mk.bytes; rw [if_pos hm, hL]] at HB
        have HN := Lib.hid (fun W => need_any L.length W (by omega))
        rw [← hK] at HN
        have a1 : A < N := by omega
        have aa : 0 ≤ A := by omega
        have a0 : J ≤ A := by omega
        have n4 : N ≤ 4000 := by omega
        have HK := Lib.hid (show d.n + 2000000 < 4611686018427387904 ∧ d.p.length + 2000000 < 4294967296 ∧ L.length ≤ 1000000 from ⟨hn, hp, by omega⟩)
        have HD : Hid (∀ k, D k → k < w.heap.size) := fun k hk => h.lt hk
        by_cases hfit : N < A + K
        · have HM := Lib.hid (append_full d a ⟨gen, n, done, st, out⟩ hm (by have : J = jFrom d := hJ; unfold jFrom at this; omega) (by omega) (by rw [← hL]; omega))
          rw [HM.out, ← hA]
          clear hs ho hg hn hp h hl hbox hm hJ hN j0 h1 h1' h2 h2' n0 n1 hL hlen hcl hne hK hA g0 g1
          go_enter Tryd.func17, Tryd.ntmps17
          go_wp2_with fail
          refine (HI.out _).mono ?_
          rintro e w1 ⟨rfl, hb1⟩
          have HB1 := Lib.hid (HX.out.2.1.trans (hb1.mono HX.out.2.1.size))
          obtain ⟨c0, c1, c2, c3, c4⟩ := five_cells ((hb1.block _ (by simp)).trans HX.out.2.2.2)
          clear hb1
          go_wp2_with fail
          refine (HF.out _ HB1.out).mono ?_
          rintro e w2 ⟨rfl, rfl⟩
          go_wp2_with fail
          refine (HZ.out _ HB1.out).mono ?_
          rintro e w3 ⟨rfl, rfl⟩
          go_wp2_with fail
          refine (HB.out _ (HX.out.2.2.1.below HB1.out)).mono ?_
          rintro e w2 ⟨q, c, rfl, ho2, hb2⟩
          have HB2 := Lib.hid (HB1.out.trans (hb2.mono HB1.out.size))
          clear ho2 hb2
          go_wp2_with fail
          refine (HN.out _).mono ?_
          rintro e w3 ⟨rfl, rfl⟩
          go_wp2_with fail
          refine (HZ.out _ HB2.out).mono ?_
          rintro e w3 ⟨rfl, rfl⟩
          go_wp2_with fail
          go_ret2
          exact ⟨rfl, (Step.same HX.out.1).below HB2.out⟩
        · have hfit' : A + K ≤ N := by omega
          have HM := Lib.hid (append_in d a ⟨gen, n, done, st, out⟩ hm (by omega) (by rw [← hL]; omega))
          rw [← hL] at HM
          obtain ⟨e1, d1, hcb⟩ : ∃ e1 d1, clearB d (a + need L.length) = (e1, d1) := ⟨_, _, rfl⟩
          rw [hcb] at HM
          have hcn : d1.n ≤ d.n + 2 ∧ d1.p.length ≤ d.p.length + 1 ∧ d1.s.length = d.s.length := by
            unfold clearB at hcb
            split at hcb
            · cases hcb; exact ⟨by omega, by omega, rfl⟩
            · have x1 := spanClear_n d (a + need L.length : Nat)
              have x2 := spanClear_len d (a + need L.length : Nat)
              rw [hcb] at x1 x2
              exact ⟨x1.1, x1.2, x2⟩
          have HC := Lib.hid (show ∀ W E, DiskAt W E p d → Calls Tryd.prog 38 #[p, .int .i64 (A + K)] W fun e w' => e = .returned (.int .i64 e1) ∧ Step E W w' p d1 from fun W E hd => by
            have := clearB_at hd (a + need L.length) (by omega) (by omega)
            rw [hcb, show ((a + need L.length : Nat) : Int) = A + K by omega] at this
            exact this)
          obtain ⟨e2, d2, hput⟩ : ∃ e2 d2, spanPut d1 a ((d.s.length : Int) - a) (gen.toNat + 1) L = (e2, d2) := ⟨_, _, rfl⟩
          obtain ⟨T, hT⟩ : ∃ T : Int, T = gen + 1 := ⟨_, rfl⟩
          have HT := Lib.hid (fun W => tag_any gen g0 g1 T hT W)
          have HP := Lib.hid (show ∀ W E q c, DiskAt W E p d1 → RowO W E (.slice q L.length c) L → Calls Tryd.prog 39 #[p, .int .i64 A, .int .i64 (N - A), .int .u32 T, .slice q L.length c] W fun e w' => e = .returned (.int .i64 e2) ∧ Step E W w' p d2 from fun W E q c hd hr => by
            have := put_at hd (a : Int) ((d.s.length : Int) - a) (by omega) (by omega) (gen.toNat + 1) (by omega) q c L hr (by omega) (by omega) (by omega)
            rw [hput, show ((gen.toNat + 1 : Nat) : Int) = T by omega, ← hN, ← hA] at this
            exact this)
          have HS1 := Lib.hid (show ∀ W E, DiskAt W E p d1 → Calls Tryd.prog 36 #[p] W fun e w' => e = .returned (.int .i64 N) ∧ W = w' from fun W E hd => by
            have := size_at hd
            rw [hcn.2.2, ← hN] at this
            exact this)
          rw [← hA] at HM ⊢
          have HR := Lib.hid (show markAppend d A ⟨gen, n, done, st, out⟩ = if e1 ≠ 0 then (0, e1, d1) else if e2 ≠ 0 then (0, e2, d2) else (A + K, e2, d2) from by
            rw [HM.out]
            simp only
            rw [hA, hput, ← hA, show ((a + need L.length : Nat) : Int) = A + K by omega])
          clear hs ho hg hn hp h hl hbox hm hJ hN h1 h1' h2 h2' n0 n1 hL hlen hcl hne hK hA g0 g1 hcb hcn hput hT HM hfit
          go_enter Tryd.func17, Tryd.ntmps17
          go_wp2_with fail
          refine (HI.out _).mono ?_
          rintro e w1 ⟨rfl, hb1⟩
          have HB1 := Lib.hid (And.intro (HX.out.2.1.trans (hb1.mono HX.out.2.1.size)) (And.intro ((hb1.block _ (by simp)).trans HX.out.2.2.2) (show w.heap.size < w1.heap.size from by have := hb1.size; simp at this; omega)))
          obtain ⟨c0, c1, c2, c3, c4⟩ := five_cells HB1.out.2.1
          clear hb1
          go_wp2_with fail
          refine (HF.out _ HB1.out.1).mono ?_
          rintro e w2 ⟨rfl, rfl⟩
          go_wp2_with fail
          refine (HZ.out _ HB1.out.1).mono ?_
          rintro e w3 ⟨rfl, rfl⟩
          go_wp2_with fail
          refine (HB.out _ (HX.out.2.2.1.below HB1.out.1)).mono ?_
          rintro e w2 ⟨q, c, rfl, ho2, hb2⟩
          have hb02 := HB1.out.1.trans (hb2.mono HB1.out.1.size)
          have H2 := Lib.hid (show AppS D w2 p (.slice q L.length c) L w.heap.size ⟨gen, n, done, st, out⟩ w2 d ∧ Below w.heap.size w w2 ∧ w.heap.size < w2.heap.size from
            ⟨⟨D, HX.out.1.below hb02, Kept.refl _ _, fun i hi => .inl hi, ⟨ho2.row, fun b o n' c' hv h0 hd => by
                subst_vars
                have h1 := HD.out b hd
                have h2 := (ho2.lt b (by cases hv; rfl)).1
                have h3 := HB1.out.2.2
                omega⟩, (five_cells ((hb2.block _ HB1.out.2.2).trans HB1.out.2.1)).1, fun hd => Nat.lt_irrefl _ (HD.out _ hd)⟩, hb02, Nat.lt_of_lt_of_le HB1.out.2.2 hb2.size⟩)
          clear ho2 hb2 hb02 c0 c1 c2 c3 c4
          go_wp2_with fail
          refine (HN.out _).mono ?_
          rintro e w3 ⟨rfl, rfl⟩
          go_wp2_with fail
          refine (HZ.out _ H2.out.2.1).mono ?_
          rintro e w3 ⟨rfl, rfl⟩
          go_wp2_with fail
          obtain ⟨E2, hE2, hk2, hE2', hr2, hc2, hn2⟩ := id H2.out.1
          refine (HC.out _ E2 hE2).mono ?_
          rintro e w3 ⟨rfl, hs3⟩
          have H3 := Lib.hid (show AppS D w2 p (.slice q L.length c) L w.heap.size ⟨gen, n, done, st, out⟩ w3 d1 from by
            obtain ⟨E3, x1, x2, x3⟩ := hs3
            exact ⟨E3, x1, hk2.trans x2 hE2', fun i hi => (x3 i hi).elim (hE2' i) fun h => .inr (Nat.le_trans hk2.size h), hr2.step x2 x3, x2.cell hc2 hn2, fun h => (x3 _ h).elim hn2 fun h => by have := H2.out.2.2; omega⟩)
          clear hE2 hk2 hE2' hr2 hc2 hn2 hs3
          by_cases he1 : e1 = 0
          · have HR1 := Lib.hid (show markAppend d A ⟨gen, n, done, st, out⟩ = if e2 ≠ 0 then (0, e2, d2) else (A + K, e2, d2) from by rw [HR.out, if_neg (by simpa using he1)])
            subst he1
            go_wp2_with fail
            have hwr : IntKind.i64.wrap (N - A) = N - A := IntWalk.i64_in _ (by omega)
            have HS0 := Lib.hid H3.out.drew.cell
            have HZ3 := Lib.hid (show Calls Tryd.prog 36 #[p] w3.drew fun e w' => e = .returned (.int .i64 N) ∧ w3.drew = w' from by
              obtain ⟨E3, hE3, -⟩ := H3.out.drew.disk
              exact HS1.out _ E3 hE3)
            have HP3 := Lib.hid (show Calls Tryd.prog 39 #[p, .int .i64 A, .int .i64 (N - A), .int .u32 T, .slice q L.length c] w3.drew fun e w' => e = .returned (.int .i64 e2) ∧ AppS D w2 p (.slice q L.length c) L w.heap.size ⟨gen, n, done, st, out⟩ w' d2 from by
              obtain ⟨E3, hE3, hk3, hE3', hr3, hc3, hn3⟩ := H3.out.drew
              refine (HP.out _ E3 q c hE3 hr3).mono ?_
              rintro e w4 ⟨rfl, E4, x1, x2, x3⟩
              exact ⟨rfl, E4, x1, hk3.trans x2 hE3', fun i hi => (x3 i hi).elim (hE3' i) fun h => .inr (Nat.le_trans hk3.size h), hr3.step x2 x3, x2.cell hc3 hn3, fun h => (x3 _ h).elim hn3 fun h => by have := H2.out.2.2; have := hk3.size; omega⟩)
            go_region_held (fun W => W.cell? ⟨w.heap.size, 0, none⟩ = some (.int .i64 gen)) (first | assumption | exact HS0.out)
              (first
                | (go_at_call 36; (with_reducible refine HZ3.out.mono ?_); rintro e w4 ⟨rfl, rfl⟩)
                | (go_at_call 40; (with_reducible refine (HT.out _).mono ?_); rintro e w4 ⟨rfl, rfl⟩)
                | (go_at_call 39; (with_reducible refine HP3.out.mono ?_); rintro e w4 ⟨rfl, h4⟩; have hs4 := h4.cell; have H4 := Lib.hid h4; clear h4))
            clear hs4
            by_cases he2 : e2 = 0
            · have HR2 := Lib.hid (show markAppend d A ⟨gen, n, done, st, out⟩ = (A + K, e2, d2) from by rw [HR1.out, if_neg (by simpa using he2)])
              subst he2
              go_wp2_with fail
              go_ret2
              exact ⟨by rw [HR2.out]; rfl, by rw [HR2.out]; exact H4.out.done H2.out.2.1⟩
            · have HR2 := Lib.hid (show markAppend d A ⟨gen, n, done, st, out⟩ = (0, e2, d2) from by rw [HR1.out, if_pos he2])
              have hb2 : (e2 != 0) = true := by simpa using he2
              clear he2
              go_wp2_with fail
              go_ret2
              exact ⟨by rw [HR2.out]; rfl, by rw [HR2.out]; exact H4.out.done H2.out.2.1⟩
          · have HR1 := Lib.hid (show markAppend d A ⟨gen, n, done, st, out⟩ = (0, e1, d1) from by rw [HR.out, if_pos he1])
            have hb1 : (e1 != 0) = true := by simpa using he1
            clear he1
            go_wp2_with fail
            go_ret2
            exact ⟨by rw [HR1.out]; rfl, by rw [HR1.out]; exact H3.out.done H2.out.2.1⟩
  · have hm' : Mk.is ⟨gen, n, done, st, out⟩ = false := by simpa using hm
    rw [hm'] at HI
    have HM := Lib.hid (append_out d at_ ⟨gen, n, done, st, out⟩ (.inl hm'))
    rw [HM.out]
    clear hs ho hg hn hp h hl hbox hm hm'
    go_enter Tryd.func17, Tryd.ntmps17
    go_wp2_with fail
    refine (HI.out _).mono ?_
    rintro e w1 ⟨rfl, hb1⟩
    have HB1 := Lib.hid (HX.out.2.1.trans (hb1.mono HX.out.2.1.size))
    clear hb1
    go_wp2_with fail
    go_ret2
    exact ⟨rfl, (Step.same HX.out.1).below HB1.out⟩
end Go.Proofs.YtilplpjdbkipoaaDoor
