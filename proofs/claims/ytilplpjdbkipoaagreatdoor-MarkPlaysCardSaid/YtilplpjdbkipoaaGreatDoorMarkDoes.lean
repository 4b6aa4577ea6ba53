/-
  Proved: texts joined: Proved: mark's Append makes of a disk what its model says. Conditions: the disk lies in memory; the mark's numbers fit, its text is of at most 900000 bytes; so many writes and operations were not yet that their number would wrap; the library's table and its two sentinel errors read as laid.
  Proved: what the statements' own From and Append of chapter 6 answer and make of their disk, by its model, and what they leave as it was. Conditions: the disk lies in memory; so many writes and operations were not yet that their number would wrap.
  Proved: mark's Scan answers the marks that its model finds, in new memory. Conditions: the disk lies in memory; the library's table and its two sentinel errors read as laid.
  Proved: mark's Scan answers the marks that its model finds, in new memory. Conditions: the disk lies in memory; the library's table and its two sentinel errors read as laid.
  Proved: what the statements' own Scan of chapter 6 answers, by its disk's model, in new memory. Conditions: the disk lies in memory.
-/
import Derived.Test.YtilplpjdbkipoaaGreatDoorMarkRead
import Derived.Test.YtilplpjdbkipoaaGreatDoorMarkDisk
import Derived.Test.YtilplpjdbkipoaaGreatDoorRefRoom
import Derived.Test.YtilplpjdbkipoaaGreatDoorMarkRefs
import Derived.Deep.RegionWith
import Derived.Deep.AppendLies
import Derived.LoopTactic
namespace Go.Proofs.YtilplpjdbkipoaaGreatDoor
open Go Go.RowKit DiskMath NetMath NetMem SpanMath SumMath MarkMath

theorem room_at {w : World} {D : Nat → Prop} {p : Value} {d : Dk} (h : DiskAt w D p d) :
    Calls Tryz.prog 39 #[p] w fun e w' => e = .returned (.int .i64 (room d : Nat)) ∧ w = w' := by
  have hl : d.s.length ≤ 4000 := by obtain ⟨g, s, pv, lv, rfl, hm, -, -⟩ := h; exact hm.secs.2.2.2.1
  have HS := Lib.hid (size_at h)
  have h0 : (0 : Int) ≤ (d.s.length : Int) := by omega
  have h1 : (d.s.length : Int) ≤ 4000 := by omega
  have HR := Lib.hid (show (d.s.length : Int) * 3 / 8 = ((room d : Nat) : Int) from by unfold room; omega)
  clear h hl
  go_enter Tryz.func39, Tryz.ntmps39
  go_wp2_with fail
  refine HS.out.mono ?_
  rintro e w1 ⟨rfl, rfl⟩
  go_wp2_with fail
  go_ret
  exact ⟨ret_int (by have := HR.out; omega), rfl⟩
theorem room_le {w : World} {D : Nat → Prop} {p : Value} {d : Dk} (h : DiskAt w D p d) : room d ≤ 1500 := by
  have hl : d.s.length ≤ 4000 := by obtain ⟨g, s, pv, lv, rfl, hm, -, -⟩ := h; exact hm.secs.2.2.2.1
  unfold room; omega

theorem first_at {w : World} {D : Nat → Prop} {p : Value} {d : Dk} (h : DiskAt w D p d) :
    Calls Tryz.prog 20 #[p] w fun e w' => e = .returned (.int .i64 (jFrom d)) ∧ w = w' := by
  have HS := Lib.hid (room_at h)
  have hr := room_le h
  obtain ⟨R, hR⟩ : ∃ R : Int, R = ((room d : Nat) : Int) := ⟨_, rfl⟩
  rw [← hR] at HS
  have r0 : 0 ≤ R := by omega
  have r1 : R ≤ 1500 := by omega
  have HM := Lib.hid (show jFrom d = 2 * R from by unfold jFrom; rw [hR])
  clear h hr hR
  go_enter Tryz.func20, Tryz.ntmps20
  go_wp2_with fail
  refine HS.out.mono ?_
  rintro e w1 ⟨rfl, rfl⟩
  go_wp2_with fail
  go_ret
  exact ⟨by rw [HM.out]; rfl, rfl⟩
theorem tag_any (g : Int) (h0 : 0 ≤ g) (h1 : g ≤ 2147483646) (z : Int) (hz : z = g + 1) (w : World) :
    Calls Tryz.prog 26 #[.int .i64 g] w fun e w' => e = .returned (.int .u32 z) ∧ w = w' := by
  subst hz
  go_enter Tryz.func26, Tryz.ntmps26
  go_wp2_with fail
  go_ret
  refine ⟨?_, rfl⟩
  first | rfl | (simp; done)

/-- The sector behind is cleared, if there is one. -/
def clearB (d : Dk) (z : Nat) : Int × Dk := if z = d.s.length then (0, d) else spanClear d (z : Int)
theorem clearB_at {w : World} {D : Nat → Prop} {p : Value} {d : Dk} (h : DiskAt w D p d) (z : Nat) (hn : d.n + 1 < 4611686018427387904) (hp : d.p.length < 4294967296) :
    Calls Tryz.prog 24 #[p, .int .i64 (z : Int)] w fun e w' => e = .returned (.int .i64 (clearB d z).1) ∧ Step D w w' p (clearB d z).2 := by
  have hl : d.s.length ≤ 4000 := by obtain ⟨g, s, pv, lv, rfl, hm, -, -⟩ := h; exact hm.secs.2.2.2.1
  have HS := Lib.hid (size_at h)
  have HC := Lib.hid (clear_at h (z : Int) hn hp)
  have HT := Lib.hid (Step.same h)
  by_cases e : z = d.s.length
  · have HM := Lib.hid (show clearB d z = (0, d) from by unfold clearB; rw [if_pos e])
    rw [HM.out]
    have hb : ((z : Int) == (d.s.length : Int)) = true := by simp [e]
    have hb2 : (z : Int) = (d.s.length : Int) := by omega
    rw [← hb2] at HS
    clear h hl e hn hp hb
    go_enter Tryz.func24, Tryz.ntmps24
    go_wp2_with fail
    refine HS.out.mono ?_
    rintro e w1 ⟨rfl, rfl⟩
    go_wp2_with fail
    go_ret
    exact ⟨rfl, HT.out⟩
  · have HM := Lib.hid (show clearB d z = spanClear d (z : Int) from by unfold clearB; rw [if_neg e])
    rw [HM.out]
    have hb : ((z : Int) == (d.s.length : Int)) = false := by simp; omega
    obtain ⟨N, hN⟩ : ∃ N : Int, N = (d.s.length : Int) := ⟨_, rfl⟩
    obtain ⟨Z, hZ⟩ : ∃ Z : Int, Z = (z : Int) := ⟨_, rfl⟩
    rw [← hN] at HS hb
    rw [← hZ] at HC hb ⊢
    clear h hl e hn hp hN hZ HM
    go_enter Tryz.func24, Tryz.ntmps24
    go_wp2_with fail
    refine HS.out.mono ?_
    rintro e w1 ⟨rfl, rfl⟩
    go_wp2_with fail
    refine HC.out.mono ?_
    rintro e w2 ⟨rfl, hs⟩
    have H2 := Lib.hid hs
    clear hs
    go_wp2_with fail
    go_ret
    exact ⟨rfl, H2.out⟩
theorem append_in (d : Dk) (a : Nat) (m : Mk) (hm : m.is = true) (h0 : jFrom d ≤ (a : Int)) (h1 : a + need m.raw.length ≤ d.s.length) :
    markAppend d a m = if (clearB d (a + need m.raw.length)).1 ≠ 0 then (0, clearB d (a + need m.raw.length))
      else if (spanPut (clearB d (a + need m.raw.length)).2 a ((d.s.length : Int) - a) (m.gen.toNat + 1) m.raw).1 ≠ 0 then (0, spanPut (clearB d (a + need m.raw.length)).2 a ((d.s.length : Int) - a) (m.gen.toNat + 1) m.raw)
      else (((a + need m.raw.length : Nat) : Int), spanPut (clearB d (a + need m.raw.length)).2 a ((d.s.length : Int) - a) (m.gen.toNat + 1) m.raw) := by
  have hn : need m.raw.length = 1 + cnt m.raw.length := rfl
  have e : (a : Int) + (need m.raw.length : Int) = ((a + need m.raw.length : Nat) : Int) := by omega
  unfold markAppend clearB
  rw [hm, if_neg (by simp; omega), if_neg (by omega), e]
  by_cases hz : d.s.length = a + need m.raw.length
  · rw [if_pos (by omega)]
    simp [if_pos hz.symm]
  · rw [if_neg (by omega)]
    simp only [if_neg (fun h : a + need m.raw.length = d.s.length => hz h.symm)]

/-- The way through Append: the disk, the bytes to be put, the mark's box. -/
def AppS (D : Nat → Prop) (w2 : World) (p : Value) (v : Value) (l : List UInt8) (B : Nat) (m : Mk) (W : World) (d' : Dk) : Prop :=
  ∃ E, DiskAt W E p d' ∧ Kept D w2 W ∧ (∀ i, E i → D i ∨ w2.heap.size ≤ i) ∧ RowO W E v l ∧ W.cell? ⟨B, 0, none⟩ = some (.int .i64 m.gen) ∧ ¬ E B
theorem AppS.step {D : Nat → Prop} {w2 : World} {p : Value} {v : Value} {l : List UInt8} {B : Nat} {m : Mk} {W W' : World} {d1 d2 : Dk} (h : AppS D w2 p v l B m W d1) (hB : B < w2.heap.size) (hs : ∀ E, DiskAt W E p d1 → RowO W E v l → Step E W W' p d2) : AppS D w2 p v l B m W' d2 := by
  obtain ⟨E, hd, hk, hE, hr, hc, hn⟩ := h
  obtain ⟨E', hd', hk', hE'⟩ := hs E hd hr
  exact ⟨E', hd', hk.trans hk' hE, fun i hi => (hE' i hi).elim (hE i) fun h => .inr (Nat.le_trans hk.size h), hr.step hk' hE', hk'.cell hc hn, fun h => (hE' B h).elim hn fun h => by have := hk.size; omega⟩
theorem AppS.done {D : Nat → Prop} {w w2 : World} {p : Value} {v : Value} {l : List UInt8} {B : Nat} {m : Mk} {W : World} {d' : Dk} (h : AppS D w2 p v l B m W d') (hb : Below w.heap.size w w2) : Step D w W p d' := by
  obtain ⟨E, hd, hk, hE, -⟩ := h
  exact Step.ahead hb ⟨E, hd, hk, hE⟩
theorem AppS.disk {D : Nat → Prop} {w2 : World} {p : Value} {v : Value} {l : List UInt8} {B : Nat} {m : Mk} {W : World} {d' : Dk} (h : AppS D w2 p v l B m W d') : ∃ E, DiskAt W E p d' ∧ RowO W E v l := by
  obtain ⟨E, hd, -, -, hr, -⟩ := h
  exact ⟨E, hd, hr⟩
theorem AppS.cell {D : Nat → Prop} {w2 : World} {p : Value} {v : Value} {l : List UInt8} {B : Nat} {m : Mk} {W : World} {d' : Dk} (h : AppS D w2 p v l B m W d') : W.cell? ⟨B, 0, none⟩ = some (.int .i64 m.gen) := by
  obtain ⟨E, -, -, -, -, hc, -⟩ := h
  exact hc
theorem AppS.drew {D : Nat → Prop} {w2 : World} {p : Value} {v : Value} {l : List UInt8} {B : Nat} {m : Mk} {W : World} {d' : Dk} (h : AppS D w2 p v l B m W d') : AppS D w2 p v l B m W.drew d' := by
  obtain ⟨E, hd, hk, hE, hr, hc, hn⟩ := h
  have hb := below_drew W.heap.size W
  exact ⟨E, hd.below hb, hk.drew, hE, hr.below hb, hc, hn⟩

set_option maxHeartbeats 4000000 in
set_option maxRecDepth 100000 in
theorem append_at {w : World} {D : Nat → Prop} {p : Value} {d : Dk} (h : DiskAt w D p d) (at_ : Int) (gen n : Int) (done : Bool) (st : Int) (out : ByteArray) (hs : I64 st) (ho : out.size ≤ 900000) (hg : NetP.Glob w)
    (hn : d.n + 2000000 < 4611686018427387904) (hp : d.p.length + 2000000 < 4294967296) :
    Calls Tryz.prog 9 #[p, .int .i64 at_, .agg #[.int .i64 gen, .int .i64 n, .bool done, .int .i64 st, .string out]] w fun e w' =>
      e = .returned (.tuple #[.int .i64 (markAppend d at_ ⟨gen, n, done, st, out⟩).1, .int .i64 (markAppend d at_ ⟨gen, n, done, st, out⟩).2.1]) ∧ Step D w w' p (markAppend d at_ ⟨gen, n, done, st, out⟩).2.2 := by
  have hl : d.s.length ≤ 4000 := by obtain ⟨g, s, pv, lv, rfl, hm, -, -⟩ := h; exact hm.secs.2.2.2.1
  have hbox : Below w.heap.size w (w.alloc (.cells #[.int .i64 gen, .int .i64 n, .bool done, .int .i64 st, .string out] 35)) := (Below.refl _ _).alloc (Nat.le_refl _) _
  have HI := Lib.hid (fun W => isMark_any ⟨gen, n, done, st, out⟩ W)
  have HX := Lib.hid (And.intro h (And.intro hbox (And.intro hg (heap_alloc_new w (.cells #[.int .i64 gen, .int .i64 n, .bool done, .int .i64 st, .string out] 35)))))
  by_cases hm : Mk.is ⟨gen, n, done, st, out⟩ = true
  · rw [hm] at HI
    have HF := Lib.hid (fun W (hW : Below w.heap.size w W) => first_at (h.below hW))
    have HZ := Lib.hid (fun W (hW : Below w.heap.size w W) => size_at (h.below hW))
    obtain ⟨J, hJ⟩ : ∃ J, J = jFrom d := ⟨_, rfl⟩
    obtain ⟨N, hN⟩ : ∃ N : Int, N = (d.s.length : Int) := ⟨_, rfl⟩
    have j0 : 0 ≤ J := by rw [hJ]; unfold jFrom; omega
    have j1 : J ≤ 4000 := by rw [hJ]; unfold jFrom; have := room_le h; omega
    rw [← hJ] at HF
    rw [← hN] at HZ
    by_cases h1 : at_ < J
    · have HM := Lib.hid (append_out d at_ ⟨gen, n, done, st, out⟩ (.inr (.inl (by rw [← hJ]; exact h1))))
      rw [HM.out]
      clear hs ho hg hn hp h hl hbox hm hJ hN j0 j1
      go_enter Tryz.func9, Tryz.ntmps9
      go_wp2_with fail
      refine (HI.out _).mono ?_
      rintro e w1 ⟨rfl, hb1⟩
      have HB1 := Lib.hid (HX.out.2.1.trans (hb1.mono HX.out.2.1.size))
      clear hb1
      go_wp2_with fail
      refine (HF.out _ HB1.out).mono ?_
      rintro e w2 ⟨rfl, rfl⟩
      go_wp2_with fail
      go_ret2
      exact ⟨rfl, (Step.same HX.out.1).below HB1.out⟩
    · have h1' : J ≤ at_ := by omega
      by_cases h2 : N ≤ at_
      · have HM := Lib.hid (append_out d at_ ⟨gen, n, done, st, out⟩ (.inr (.inr (by rw [← hN]; exact h2))))
        rw [HM.out]
        clear hs ho hg hn hp h hl hbox hm hJ hN j0 j1 h1
        go_enter Tryz.func9, Tryz.ntmps9
        go_wp2_with fail
        refine (HI.out _).mono ?_
        rintro e w1 ⟨rfl, hb1⟩
        have HB1 := Lib.hid (HX.out.2.1.trans (hb1.mono HX.out.2.1.size))
        clear hb1
        go_wp2_with fail
        refine (HF.out _ HB1.out).mono ?_
        rintro e w2 ⟨rfl, rfl⟩
        go_wp2_with fail
        refine (HZ.out _ HB1.out).mono ?_
        rintro e w3 ⟨rfl, rfl⟩
        go_wp2_with fail
        go_ret2
        exact ⟨rfl, (Step.same HX.out.1).below HB1.out⟩
      · have h2' : at_ < N := by omega
        obtain ⟨a, rfl⟩ := Int.eq_ofNat_of_zero_le (show 0 ≤ at_ by omega)
        obtain ⟨g0, g1, n0, n1⟩ := is_gen hm
        simp only at g0 g1
        obtain ⟨L, hL⟩ : ∃ L, L = Mk.raw ⟨gen, n, done, st, out⟩ := ⟨_, rfl⟩
        have hlen := (raw_len ⟨gen, n, done, st, out⟩ ⟨by omega, by omega⟩ hs (show out.size ≤ 1000000 by omega)).2
        rw [← hL] at hlen
        simp only at hlen
        have hcl := cnt_self L.length
        have hne : need L.length = 1 + cnt L.length := rfl
        obtain ⟨K, hK⟩ : ∃ K : Int, K = ((need L.length : Nat) : Int) := ⟨_, rfl⟩
        obtain ⟨A, hA⟩ : ∃ A : Int, A = (a : Int) := ⟨_, rfl⟩
        have k0 : 0 ≤ K := by omega
        have k1 : K ≤ 1000000 := by omega
        have HB := Lib.hid (fun W hW => bytes_q ⟨gen, n, done, st, out⟩ hs ho W hW)
        rw [show Mk.bytes ⟨gen, n, done, st, out⟩ = L by unfold Mk.bytes; rw [if_pos hm, hL]] at HB
        have HN := Lib.hid (fun W => need_any L.length W (by omega))
        rw [← hK] at HN
        have a1 : A < N := by omega
        have aa : 0 ≤ A := by omega
        have a0 : J ≤ A := by omega
        have n4 : N ≤ 4000 := by omega
        have HK := Lib.hid (show d.n + 2000000 < 4611686018427387904 ∧ d.p.length + 2000000 < 4294967296 ∧ L.length ≤ 1000000 from ⟨hn, hp, by omega⟩)
        have HD : Hid (∀ k, D k → k < w.heap.size) := fun k hk => h.lt hk
        by_cases hfit : N < A + K
        · have HM := Lib.hid (append_full d a ⟨gen, n, done, st, out⟩ hm (by have : J = jFrom d := hJ; unfold jFrom at this; omega) (by omega) (by rw [← hL]; omega))
          rw [HM.out, ← hA]
          clear hs ho hg hn hp h hl hbox hm hJ hN j0 h1 h1' h2 h2' n0 n1 hL hlen hcl hne hK hA g0 g1
          go_enter Tryz.func9, Tryz.ntmps9
          go_wp2_with fail
          refine (HI.out _).mono ?_
          rintro e w1 ⟨rfl, hb1⟩
          have HB1 := Lib.hid (HX.out.2.1.trans (hb1.mono HX.out.2.1.size))
          obtain ⟨c0, c1, c2, c3, c4⟩ := five_cells ((hb1.block _ (by simp)).trans HX.out.2.2.2)
          clear hb1
          go_wp2_with fail
          refine (HF.out _ HB1.out).mono ?_
          rintro e w2 ⟨rfl, rfl⟩
          go_wp2_with fail
          refine (HZ.out _ HB1.out).mono ?_
          rintro e w3 ⟨rfl, rfl⟩
          go_wp2_with fail
          refine (HB.out _ (HX.out.2.2.1.below HB1.out)).mono ?_
          rintro e w2 ⟨q, c, rfl, ho2, hb2⟩
          have HB2 := Lib.hid (HB1.out.trans (hb2.mono HB1.out.size))
          clear ho2 hb2
          go_wp2_with fail
          refine (HN.out _).mono ?_
          rintro e w3 ⟨rfl, rfl⟩
          go_wp2_with fail
          refine (HZ.out _ HB2.out).mono ?_
          rintro e w3 ⟨rfl, rfl⟩
          go_wp2_with fail
          go_ret2
          exact ⟨rfl, (Step.same HX.out.1).below HB2.out⟩
        · have hfit' : A + K ≤ N := by omega
          have HM := Lib.hid (append_in d a ⟨gen, n, done, st, out⟩ hm (by omega) (by rw [← hL]; omega))
          rw [← hL] at HM
          obtain ⟨e1, d1, hcb⟩ : ∃ e1 d1, clearB d (a + need L.length) = (e1, d1) := ⟨_, _, rfl⟩
          rw [hcb] at HM
          have hcn : d1.n ≤ d.n + 2 ∧ d1.p.length ≤ d.p.length + 1 ∧ d1.s.length = d.s.length := by
            unfold clearB at hcb
            split at hcb
            · cases hcb; exact ⟨by omega, by omega, rfl⟩
            · have x1 := spanClear_n d (a + need L.length : Nat)
              have x2 := spanClear_len d (a + need L.length : Nat)
              rw [hcb] at x1 x2
              exact ⟨x1.1, x1.2, x2⟩
          have HC := Lib.hid (show ∀ W E, DiskAt W E p d → Calls Tryz.prog 24 #[p, .int .i64 (A + K)] W fun e w' => e = .returned (.int .i64 e1) ∧ Step E W w' p d1 from fun W E hd => by
            have := clearB_at hd (a + need L.length) (by omega) (by omega)
            rw [hcb, show ((a + need L.length : Nat) : Int) = A + K by omega] at this
            exact this)
          obtain ⟨e2, d2, hput⟩ : ∃ e2 d2, spanPut d1 a ((d.s.length : Int) - a) (gen.toNat + 1) L = (e2, d2) := ⟨_, _, rfl⟩
          obtain ⟨T, hT⟩ : ∃ T : Int, T = gen + 1 := ⟨_, rfl⟩
          have HT := Lib.hid (fun W => tag_any gen g0 g1 T hT W)
          have HP := Lib.hid (show ∀ W E q c, DiskAt W E p d1 → RowO W E (.slice q L.length c) L → Calls Tryz.prog 25 #[p, .int .i64 A, .int .i64 (N - A), .int .u32 T, .slice q L.length c] W fun e w' => e = .returned (.int .i64 e2) ∧ Step E W w' p d2 from fun W E q c hd hr => by
            have := put_at hd (a : Int) ((d.s.length : Int) - a) (by omega) (by omega) (gen.toNat + 1) (by omega) q c L hr (by omega) (by omega) (by omega)
            rw [hput, show ((gen.toNat + 1 : Nat) : Int) = T by omega, ← hN, ← hA] at this
            exact this)
          have HS1 := Lib.hid (show ∀ W E, DiskAt W E p d1 → Calls Tryz.prog 21 #[p] W fun e w' => e = .returned (.int .i64 N) ∧ W = w' from fun W E hd => by
            have := size_at hd
            rw [hcn.2.2, ← hN] at this
            exact this)
          rw [← hA] at HM ⊢
          have HR := Lib.hid (show markAppend d A ⟨gen, n, done, st, out⟩ = if e1 ≠ 0 then (0, e1, d1) else if e2 ≠ 0 then (0, e2, d2) else (A + K, e2, d2) from by
            rw [HM.out]
            simp only
            rw [hA, hput, ← hA, show ((a + need L.length : Nat) : Int) = A + K by omega])
          clear hs ho hg hn hp h hl hbox hm hJ hN h1 h1' h2 h2' n0 n1 hL hlen hcl hne hK hA g0 g1 hcb hcn hput hT HM hfit
          go_enter Tryz.func9, Tryz.ntmps9
          go_wp2_with fail
          refine (HI.out _).mono ?_
          rintro e w1 ⟨rfl, hb1⟩
          have HB1 := Lib.hid (And.intro (HX.out.2.1.trans (hb1.mono HX.out.2.1.size)) (And.intro ((hb1.block _ (by simp)).trans HX.out.2.2.2) (show w.heap.size < w1.heap.size from by have := hb1.size; simp at this; omega)))
          obtain ⟨c0, c1, c2, c3, c4⟩ := five_cells HB1.out.2.1
          clear hb1
          go_wp2_with fail
          refine (HF.out _ HB1.out.1).mono ?_
          rintro e w2 ⟨rfl, rfl⟩
          go_wp2_with fail
          refine (HZ.out _ HB1.out.1).mono ?_
          rintro e w3 ⟨rfl, rfl⟩
          go_wp2_with fail
          refine (HB.out _ (HX.out.2.2.1.below HB1.out.1)).mono ?_
          rintro e w2 ⟨q, c, rfl, ho2, hb2⟩
          have hb02 := HB1.out.1.trans (hb2.mono HB1.out.1.size)
          have H2 := Lib.hid (show AppS D w2 p (.slice q L.length c) L w.heap.size ⟨gen, n, done, st, out⟩ w2 d ∧ Below w.heap.size w w2 ∧ w.heap.size < w2.heap.size from
            ⟨⟨D, HX.out.1.below hb02, Kept.refl _ _, fun i hi => .inl hi, ⟨ho2.row, fun b o n' c' hv h0 hd => by
                subst_vars
                have h1 := HD.out b hd
                have h2 := (ho2.lt b (by cases hv; rfl)).1
                have h3 := HB1.out.2.2
                omega⟩, (five_cells ((hb2.block _ HB1.out.2.2).trans HB1.out.2.1)).1, fun hd => Nat.lt_irrefl _ (HD.out _ hd)⟩, hb02, Nat.lt_of_lt_of_le HB1.out.2.2 hb2.size⟩)
          clear ho2 hb2 hb02 c0 c1 c2 c3 c4
          go_wp2_with fail
          refine (HN.out _).mono ?_
          rintro e w3 ⟨rfl, rfl⟩
          go_wp2_with fail
          refine (HZ.out _ H2.out.2.1).mono ?_
          rintro e w3 ⟨rfl, rfl⟩
          go_wp2_with fail
          obtain ⟨E2, hE2, hk2, hE2', hr2, hc2, hn2⟩ := id H2.out.1
          refine (HC.out _ E2 hE2).mono ?_
          rintro e w3 ⟨rfl, hs3⟩
          have H3 := Lib.hid (show AppS D w2 p (.slice q L.length c) L w.heap.size ⟨gen, n, done, st, out⟩ w3 d1 from by
            obtain ⟨E3, x1, x2, x3⟩ := hs3
            exact ⟨E3, x1, hk2.trans x2 hE2', fun i hi => (x3 i hi).elim (hE2' i) fun h => .inr (Nat.le_trans hk2.size h), hr2.step x2 x3, x2.cell hc2 hn2, fun h => (x3 _ h).elim hn2 fun h => by have := H2.out.2.2; omega⟩)
          clear hE2 hk2 hE2' hr2 hc2 hn2 hs3
          by_cases he1 : e1 = 0
          · have HR1 := Lib.hid (show markAppend d A ⟨gen, n, done, st, out⟩ = if e2 ≠ 0 then (0, e2, d2) else (A + K, e2, d2) from by rw [HR.out, if_neg (by simpa using he1)])
            subst he1
            go_wp2_with fail
            have hwr : IntKind.i64.wrap (N - A) = N - A := IntWalk.i64_in _ (by omega)
            have HS0 := Lib.hid H3.out.drew.cell
            have HZ3 := Lib.hid (show Calls Tryz.prog 21 #[p] w3.drew fun e w' => e = .returned (.int .i64 N) ∧ w3.drew = w' from by
              obtain ⟨E3, hE3, -⟩ := H3.out.drew.disk
              exact HS1.out _ E3 hE3)
            have HP3 := Lib.hid (show Calls Tryz.prog 25 #[p, .int .i64 A, .int .i64 (N - A), .int .u32 T, .slice q L.length c] w3.drew fun e w' => e = .returned (.int .i64 e2) ∧ AppS D w2 p (.slice q L.length c) L w.heap.size ⟨gen, n, done, st, out⟩ w' d2 from by
              obtain ⟨E3, hE3, hk3, hE3', hr3, hc3, hn3⟩ := H3.out.drew
              refine (HP.out _ E3 q c hE3 hr3).mono ?_
              rintro e w4 ⟨rfl, E4, x1, x2, x3⟩
              exact ⟨rfl, E4, x1, hk3.trans x2 hE3', fun i hi => (x3 i hi).elim (hE3' i) fun h => .inr (Nat.le_trans hk3.size h), hr3.step x2 x3, x2.cell hc3 hn3, fun h => (x3 _ h).elim hn3 fun h => by have := H2.out.2.2; have := hk3.size; omega⟩)
            go_region_held (fun W => W.cell? ⟨w.heap.size, 0, none⟩ = some (.int .i64 gen)) (first | assumption | exact HS0.out)
              (first
                | (go_at_call 21; (with_reducible refine HZ3.out.mono ?_); rintro e w4 ⟨rfl, rfl⟩)
                | (go_at_call 26; (with_reducible refine (HT.out _).mono ?_); rintro e w4 ⟨rfl, rfl⟩)
                | (go_at_call 25; (with_reducible refine HP3.out.mono ?_); rintro e w4 ⟨rfl, h4⟩; have hs4 := h4.cell; have H4 := Lib.hid h4; clear h4))
            clear hs4
            by_cases he2 : e2 = 0
            · have HR2 := Lib.hid (show markAppend d A ⟨gen, n, done, st, out⟩ = (A + K, e2, d2) from by rw [HR1.out, if_neg (by simpa using he2)])
              subst he2
              go_wp2_with fail
              go_ret2
              exact ⟨by rw [HR2.out]; rfl, by rw [HR2.out]; exact H4.out.done H2.out.2.1⟩
            · have HR2 := Lib.hid (show markAppend d A ⟨gen, n, done, st, out⟩ = (0, e2, d2) from by rw [HR1.out, if_pos he2])
              have hb2 : (e2 != 0) = true := by simpa using he2
              clear he2
              go_wp2_with fail
              go_ret2
              exact ⟨by rw [HR2.out]; rfl, by rw [HR2.out]; exact H4.out.done H2.out.2.1⟩
          · have HR1 := Lib.hid (show markAppend d A ⟨gen, n, done, st, out⟩ = (0, e1, d1) from by rw [HR.out, if_pos he1])
            have hb1 : (e1 != 0) = true := by simpa using he1
            clear he1
            go_wp2_with fail
            go_ret2
            exact ⟨by rw [HR1.out]; rfl, by rw [HR1.out]; exact H3.out.done H2.out.2.1⟩
  · have hm' : Mk.is ⟨gen, n, done, st, out⟩ = false := by simpa using hm
    rw [hm'] at HI
    have HM := Lib.hid (append_out d at_ ⟨gen, n, done, st, out⟩ (.inl hm'))
    rw [HM.out]
    clear hs ho hg hn hp h hl hbox hm hm'
    go_enter Tryz.func9, Tryz.ntmps9
    go_wp2_with fail
    refine (HI.out _).mono ?_
    rintro e w1 ⟨rfl, hb1⟩
    have HB1 := Lib.hid (HX.out.2.1.trans (hb1.mono HX.out.2.1.size))
    clear hb1
    go_wp2_with fail
    go_ret2
    exact ⟨rfl, (Step.same HX.out.1).below HB1.out⟩
end Go.Proofs.YtilplpjdbkipoaaGreatDoor

namespace Go.Proofs.YtilplpjdbkipoaaGreatDoor
open Go Go.RowKit DiskMath NetMath NetMem SpanMath SumMath MarkMath

theorem rfrom_at {w0 w : World} {D : Nat → Prop} {p : Value} {d : Dk} (h : RefAt w0 w D p d) :
    Calls Tryz.prog 6 #[p] w fun e w' => e = .returned (.int .i64 (jFrom d)) ∧ w = w' := by
  have HS := Lib.hid (rroom_at h)
  have hr := rroom_le h
  obtain ⟨R, hR⟩ : ∃ R : Int, R = ((room d : Nat) : Int) := ⟨_, rfl⟩
  rw [← hR] at HS
  have r0 : 0 ≤ R := by omega
  have r1 : R ≤ 1500 := by omega
  have HM := Lib.hid (show jFrom d = 2 * R from by unfold jFrom; rw [hR])
  clear h hr hR
  go_enter Tryz.func6, Tryz.ntmps6
  go_wp2_with fail
  refine HS.out.mono ?_
  rintro e w1 ⟨rfl, rfl⟩
  go_wp2_with fail
  go_ret
  rw [HM.out]
  exact ⟨ret_int (by omega), rfl⟩

/-- The statements' own disk beside a row of bytes that the call made. -/
def AppR (w0 : World) (D : Nat → Prop) (w2 : World) (p : Value) (v : Value) (l : List UInt8) (B : Nat) (gen : Int) (W : World) (d' : Dk) : Prop :=
  ∃ E, RefAt w0 W E p d' ∧ Kept D w2 W ∧ (∀ i, E i → D i ∨ w2.heap.size ≤ i) ∧ RowO W E v l ∧ W.cell? ⟨B, 0, none⟩ = some (.int .i64 gen) ∧ ¬ E B
section
variable {w0 : World} {D : Nat → Prop} {w2 : World} {p v : Value} {l : List UInt8} {B : Nat} {gen : Int} {W W' : World} {d1 d2 : Dk}
theorem AppR.step (h : AppR w0 D w2 p v l B gen W d1) (hB : B < w2.heap.size) (hs : ∀ E, RefAt w0 W E p d1 → RowO W E v l → RStep w0 E W W' p d2) : AppR w0 D w2 p v l B gen W' d2 := by
  obtain ⟨E, hd, hk, hE, hr, hc, hn⟩ := h
  obtain ⟨E', hd', hk', hE'⟩ := hs E hd hr
  exact ⟨E', hd', hk.trans hk' hE, fun i hi => (hE' i hi).elim (hE i) fun h => .inr (Nat.le_trans hk.size h), hr.step hk' hE', hk'.cell hc hn, fun h => (hE' B h).elim hn fun h => by have := hk.size; omega⟩
theorem AppR.done {w : World} (h : AppR w0 D w2 p v l B gen W d1) (hb : Below w.heap.size w w2) : RStep w0 D w W p d1 := by
  obtain ⟨E, hd, hk, hE, -⟩ := h
  exact RStep.ahead hb ⟨E, hd, hk, hE⟩
theorem AppR.disk (h : AppR w0 D w2 p v l B gen W d1) : ∃ E, RefAt w0 W E p d1 ∧ RowO W E v l := by
  obtain ⟨E, hd, -, -, hr, -⟩ := h
  exact ⟨E, hd, hr⟩
theorem AppR.cell (h : AppR w0 D w2 p v l B gen W d1) : W.cell? ⟨B, 0, none⟩ = some (.int .i64 gen) := by
  obtain ⟨E, -, -, -, -, hc, -⟩ := h
  exact hc
theorem AppR.drew (h : AppR w0 D w2 p v l B gen W d1) : AppR w0 D w2 p v l B gen W.drew d1 := by
  obtain ⟨E, hd, hk, hE, hr, hc, hn⟩ := h
  have hb := below_drew W.heap.size W
  exact ⟨E, hd.below hb, hk.drew, hE, hr.below hb, hc, hn⟩
end

set_option maxHeartbeats 4000000 in
set_option maxRecDepth 100000 in
theorem rappend_at {w0 w : World} {D : Nat → Prop} {p : Value} {d : Dk} (h : RefAt w0 w D p d) (at_ : Int) (gen n : Int) (done : Bool) (st : Int) (out : ByteArray) (hs : I64 st) (ho : out.size ≤ 900000)
    (hn : d.n + 2000000 < 4611686018427387904) (hp : d.p.length + 2000000 < 4294967296) :
    Calls Tryz.prog 10 #[p, .int .i64 at_, .agg #[.int .i64 gen, .int .i64 n, .bool done, .int .i64 st, .string out]] w fun e w' =>
      e = .returned (.tuple #[.int .i64 (markAppend d at_ ⟨gen, n, done, st, out⟩).1, .int .i64 (markAppend d at_ ⟨gen, n, done, st, out⟩).2.1]) ∧ RStep w0 D w w' p (markAppend d at_ ⟨gen, n, done, st, out⟩).2.2 := by
  obtain ⟨gd, -, -, rfl, -⟩ := h.sectors
  have hl : d.s.length ≤ 4000 := h.max
  have hbox : Below w.heap.size w (w.alloc (.cells #[.int .i64 gen, .int .i64 n, .bool done, .int .i64 st, .string out] 35)) := (Below.refl _ _).alloc (Nat.le_refl _) _
  have HI := Lib.hid (fun W => ris_any ⟨gen, n, done, st, out⟩ W)
  have HX := Lib.hid (And.intro h (And.intro hbox (heap_alloc_new w (.cells #[.int .i64 gen, .int .i64 n, .bool done, .int .i64 st, .string out] 35))))
  by_cases hm : Mk.is ⟨gen, n, done, st, out⟩ = true
  · rw [hm] at HI
    have HF := Lib.hid (fun W (hW : Below w.heap.size w W) => rfrom_at (h.below hW))
    obtain ⟨N, hN⟩ : ∃ N : Nat, N = d.s.length := ⟨_, rfl⟩
    have HZ := Lib.hid (show ∀ W, Below w.heap.size w W → ∃ a c, W.cell? ⟨gd, 0, none⟩ = some (.slice a N c) from fun W hW => by rw [hN]; exact (h.below hW).sec_cell)
    obtain ⟨J, hJ⟩ : ∃ J, J = jFrom d := ⟨_, rfl⟩
    have j0 : 0 ≤ J := by rw [hJ]; unfold jFrom; omega
    have j1 : J ≤ 4000 := by rw [hJ]; unfold jFrom; have := rroom_le h; omega
    have n4 : (N : Int) ≤ 4000 := by omega
    rw [← hJ] at HF
    by_cases h1 : at_ < J
    · have HM := Lib.hid (append_out d at_ ⟨gen, n, done, st, out⟩ (.inr (.inl (by rw [← hJ]; exact h1))))
      rw [HM.out]
      clear hs ho hn hp h hl hbox hm hJ hN j0 j1
      go_enter Tryz.func10, Tryz.ntmps10
      go_wp2_with fail
      refine (HI.out _).mono ?_
      rintro e w1 ⟨rfl, hb1⟩
      have HB1 := Lib.hid (HX.out.2.1.trans (hb1.mono HX.out.2.1.size))
      clear hb1
      go_wp2_with fail
      refine (HF.out _ HB1.out).mono ?_
      rintro e w2 ⟨rfl, rfl⟩
      go_wp2_with fail
      go_ret2
      exact ⟨rfl, (RStep.same HX.out.1).below HB1.out⟩
    · have h1' : J ≤ at_ := by omega
      by_cases h2 : (N : Int) ≤ at_
      · have HM := Lib.hid (append_out d at_ ⟨gen, n, done, st, out⟩ (.inr (.inr (by rw [← hN]; exact h2))))
        rw [HM.out]
        clear hs ho hn hp h hl hbox hm hJ hN j0 j1 h1
        go_enter Tryz.func10, Tryz.ntmps10
        go_wp2_with fail
        refine (HI.out _).mono ?_
        rintro e w1 ⟨rfl, hb1⟩
        have HB1 := Lib.hid (HX.out.2.1.trans (hb1.mono HX.out.2.1.size))
        clear hb1
        go_wp2_with fail
        refine (HF.out _ HB1.out).mono ?_
        rintro e w2 ⟨rfl, rfl⟩
        obtain ⟨sa, sc, hcs⟩ := HZ.out _ HB1.out
        go_wp2_with fail
        go_ret2
        exact ⟨rfl, (RStep.same HX.out.1).below HB1.out⟩
      · have h2' : at_ < (N : Int) := by omega
        obtain ⟨a, rfl⟩ := Int.eq_ofNat_of_zero_le (show 0 ≤ at_ by omega)
        obtain ⟨g0, g1, n0, n1⟩ := is_gen hm
        simp only at g0 g1
        obtain ⟨L, hL⟩ : ∃ L, L = Mk.raw ⟨gen, n, done, st, out⟩ := ⟨_, rfl⟩
        have hlen := (raw_len ⟨gen, n, done, st, out⟩ ⟨by omega, by omega⟩ hs (show out.size ≤ 1000000 by omega)).2
        rw [← hL] at hlen
        simp only at hlen
        have hcl := cnt_self L.length
        have hne : need L.length = 1 + cnt L.length := rfl
        obtain ⟨K, hK⟩ : ∃ K : Int, K = ((need L.length : Nat) : Int) := ⟨_, rfl⟩
        obtain ⟨A, hA⟩ : ∃ A : Int, A = (a : Int) := ⟨_, rfl⟩
        have k0 : 0 ≤ K := by omega
        have k1 : K ≤ 1000000 := by omega
        have HB := Lib.hid (fun W => rbytes_q ⟨gen, n, done, st, out⟩ hs ho W)
        rw [show Mk.bytes ⟨gen, n, done, st, out⟩ = L by unfold Mk.bytes; rw [if_pos hm, hL]] at HB
        have HN := Lib.hid (fun W => refneed_any L.length W (by omega))
        rw [← hK] at HN
        have a1 : A < (N : Int) := by omega
        have aa : 0 ≤ A := by omega
        have a0 : J ≤ A := by omega
        have HK := Lib.hid (show d.n + 2000000 < 4611686018427387904 ∧ d.p.length + 2000000 < 4294967296 ∧ L.length ≤ 1000000 from ⟨hn, hp, by omega⟩)
        have HD : Hid (∀ k, D k → k < w.heap.size) := fun k hk => (h.lt hk).2
        by_cases hfit : (N : Int) < A + K
        · have HM := Lib.hid (append_full d a ⟨gen, n, done, st, out⟩ hm (by have : J = jFrom d := hJ; unfold jFrom at this; omega) (by omega) (by rw [← hL]; omega))
          rw [HM.out, ← hA]
          clear hs ho hn hp h hl hbox hm hJ hN j0 h1 h1' h2 h2' n0 n1 hL hlen hcl hne hK hA g0 g1
          go_enter Tryz.func10, Tryz.ntmps10
          go_wp2_with fail
          refine (HI.out _).mono ?_
          rintro e w1 ⟨rfl, hb1⟩
          have HB1 := Lib.hid (And.intro (HX.out.2.1.trans (hb1.mono HX.out.2.1.size)) (And.intro ((hb1.block _ (by simp)).trans HX.out.2.2) (show w.heap.size < w1.heap.size from by have := hb1.size; simp at this; omega)))
          obtain ⟨c0, c1, c2, c3, c4⟩ := five_cells HB1.out.2.1
          clear hb1
          go_wp2_with fail
          refine (HF.out _ HB1.out.1).mono ?_
          rintro e w2 ⟨rfl, rfl⟩
          obtain ⟨sa, sc, hcs⟩ := HZ.out _ HB1.out.1
          go_wp2_with fail
          refine (HB.out _).mono ?_
          rintro e w2 ⟨q, c, rfl, ho2, hb2⟩
          have hb02 := HB1.out.1.trans (hb2.mono HB1.out.1.size)
          have H2 := Lib.hid (show AppR w0 D w2 (.pointer (some ⟨gd, 0, none⟩)) (.slice q L.length c) L w.heap.size gen w2 d ∧ Below w.heap.size w w2 ∧ w.heap.size < w2.heap.size from
            ⟨⟨D, HX.out.1.below hb02, Kept.refl _ _, fun i hi => .inl hi, ⟨ho2.row, fun b o n' c' hv h0 hd => by
                subst_vars
                have h1 := HD.out b hd
                have h2 := (ho2.lt b (by cases hv; rfl)).1
                have h3 := HB1.out.2.2
                omega⟩, (five_cells ((hb2.block _ HB1.out.2.2).trans HB1.out.2.1)).1, fun hd => Nat.lt_irrefl _ (HD.out _ hd)⟩, hb02, Nat.lt_of_lt_of_le HB1.out.2.2 hb2.size⟩)
          clear ho2 hb2 hb02 c0 c1 c2 c3 c4 hcs
          go_wp2_with fail
          refine (HN.out _).mono ?_
          rintro e w3 ⟨rfl, rfl⟩
          obtain ⟨sa3, sc3, hcs3⟩ := HZ.out _ H2.out.2.1
          go_wp2_with fail
          go_ret2
          exact ⟨rfl, (RStep.same HX.out.1).below H2.out.2.1⟩
        · have hfit' : A + K ≤ (N : Int) := by omega
          have HM := Lib.hid (append_in d a ⟨gen, n, done, st, out⟩ hm (by omega) (by rw [← hL]; omega))
          rw [← hL] at HM
          obtain ⟨e1, d1, hcb⟩ : ∃ e1 d1, clearB d (a + need L.length) = (e1, d1) := ⟨_, _, rfl⟩
          rw [hcb] at HM
          have hcn : d1.n ≤ d.n + 2 ∧ d1.p.length ≤ d.p.length + 1 ∧ d1.s.length = d.s.length := by
            unfold clearB at hcb
            split at hcb
            · cases hcb; exact ⟨by omega, by omega, rfl⟩
            · have x1 := spanClear_n d (a + need L.length : Nat)
              have x2 := spanClear_len d (a + need L.length : Nat)
              rw [hcb] at x1 x2
              exact ⟨x1.1, x1.2, x2⟩
          obtain ⟨e2, d2, hput⟩ : ∃ e2 d2, spanPut d1 a ((d.s.length : Int) - a) (gen.toNat + 1) L = (e2, d2) := ⟨_, _, rfl⟩
          have HP := Lib.hid (show ∀ W E q c, RefAt w0 W E (.pointer (some ⟨gd, 0, none⟩)) d1 → RowO W E (.slice q L.length c) L → Calls Tryz.prog 31 #[.pointer (some ⟨gd, 0, none⟩), .int .i64 A, .int .i64 ((N : Int) - A), .int .u32 (gen + 1), .slice q L.length c] W fun e w' => e = .returned (.int .i64 e2) ∧ RStep w0 E W w' (.pointer (some ⟨gd, 0, none⟩)) d2 from fun W E q c hd hr => by
            have := rput_at hd (a : Int) ((d.s.length : Int) - a) (by omega) (by omega) (gen.toNat + 1) (by omega) q c L hr (by omega) (by omega) (by omega)
            rw [hput, show ((gen.toNat + 1 : Nat) : Int) = gen + 1 by omega, ← hN, ← hA] at this
            exact this)
          have HS1 := Lib.hid (show ∀ W E, RefAt w0 W E (.pointer (some ⟨gd, 0, none⟩)) d1 → ∃ a c, W.cell? ⟨gd, 0, none⟩ = some (.slice a N c) from fun W E hd => by
            have := hd.sec_cell
            rw [hcn.2.2, ← hN] at this
            exact this)
          have HR := Lib.hid (show markAppend d A ⟨gen, n, done, st, out⟩ = if e1 ≠ 0 then (0, e1, d1) else if e2 ≠ 0 then (0, e2, d2) else (A + K, e2, d2) from by
            rw [hA, HM.out]
            simp only
            rw [hput, ← hA, show ((a + need L.length : Nat) : Int) = A + K by omega])
          rw [← hA]
          have hw1 : IntKind.i64.wrap ((N : Int) - A) = (N : Int) - A := IntWalk.i64_in _ (by omega)
          have hw2 : IntKind.i64.wrap (gen + 1) = gen + 1 := IntWalk.i64_in _ (by omega)
          have hw3 : IntKind.u32.wrap (gen + 1) = gen + 1 := IntWalk.u32_in _ (by omega)
          by_cases hz : A + K = (N : Int)
          · have hd1 : e1 = 0 ∧ d1 = d := by
              unfold clearB at hcb
              rw [if_pos (by omega)] at hcb
              cases hcb; exact ⟨rfl, rfl⟩
            obtain ⟨he0, hd0⟩ := hd1
            subst e1
            subst d1
            have HR1 := Lib.hid (show markAppend d A ⟨gen, n, done, st, out⟩ = if e2 ≠ 0 then (0, e2, d2) else (A + K, e2, d2) from by rw [HR.out, if_neg (by simp)])
            have hz2 : (N : Int) ≤ A + K := by omega
            clear hz
            clear hs ho hn hp h hl hbox hm hJ hN h1 h1' h2 h2' n0 n1 hL hlen hcl hne hK hA hcb hcn hput HM hfit HR
            go_enter Tryz.func10, Tryz.ntmps10
            go_wp2_with fail
            refine (HI.out _).mono ?_
            rintro e w1 ⟨rfl, hb1⟩
            have HB1 := Lib.hid (And.intro (HX.out.2.1.trans (hb1.mono HX.out.2.1.size)) (And.intro ((hb1.block _ (by simp)).trans HX.out.2.2) (show w.heap.size < w1.heap.size from by have := hb1.size; simp at this; omega)))
            obtain ⟨c0, c1, c2, c3, c4⟩ := five_cells HB1.out.2.1
            clear hb1
            go_wp2_with fail
            refine (HF.out _ HB1.out.1).mono ?_
            rintro e w2 ⟨rfl, rfl⟩
            obtain ⟨sa, sc, hcs⟩ := HZ.out _ HB1.out.1
            go_wp2_with fail
            refine (HB.out _).mono ?_
            rintro e w2 ⟨q, c, rfl, ho2, hb2⟩
            have hb02 := HB1.out.1.trans (hb2.mono HB1.out.1.size)
            have H2 := Lib.hid (show AppR w0 D w2 (.pointer (some ⟨gd, 0, none⟩)) (.slice q L.length c) L w.heap.size gen w2 d ∧ Below w.heap.size w w2 ∧ w.heap.size < w2.heap.size from
              ⟨⟨D, HX.out.1.below hb02, Kept.refl _ _, fun i hi => .inl hi, ⟨ho2.row, fun b o n' c' hv h0 hd => by
                  subst_vars
                  have h1 := HD.out b hd
                  have h2 := (ho2.lt b (by cases hv; rfl)).1
                  have h3 := HB1.out.2.2
                  omega⟩, (five_cells ((hb2.block _ HB1.out.2.2).trans HB1.out.2.1)).1, fun hd => Nat.lt_irrefl _ (HD.out _ hd)⟩, hb02, Nat.lt_of_lt_of_le HB1.out.2.2 hb2.size⟩)
            clear ho2 hb2 hb02 c0 c1 c2 c3 c4 hcs
            go_wp2_with fail
            refine (HN.out _).mono ?_
            rintro e w3 ⟨rfl, rfl⟩
            obtain ⟨sa3, sc3, hcs3⟩ := HZ.out _ H2.out.2.1
            go_wp2_with fail
            have H3 := Lib.hid H2.out.1
            clear hcs3
            have hgc5 := H3.out.drew.cell
            have hcs5 : ∃ a c, w2.drew.cell? ⟨gd, 0, none⟩ = some (.slice a N c) := by
              obtain ⟨E3, hE3, -⟩ := H3.out.drew.disk
              exact HS1.out _ E3 hE3
            obtain ⟨sa5, sc5, hcs5⟩ := hcs5
            have HP3 := Lib.hid (show Calls Tryz.prog 31 #[.pointer (some ⟨gd, 0, none⟩), .int .i64 A, .int .i64 ((N : Int) - A), .int .u32 (gen + 1), .slice q L.length c] w2.drew fun e w' => e = .returned (.int .i64 e2) ∧ AppR w0 D w2 (.pointer (some ⟨gd, 0, none⟩)) (.slice q L.length c) L w.heap.size gen w' d2 from by
              obtain ⟨E3, hE3, hk3, hE3', hr3, hc3, hn3⟩ := H3.out.drew
              refine (HP.out _ E3 q c hE3 hr3).mono ?_
              rintro e w4 ⟨rfl, E4, x1, x2, x3⟩
              exact ⟨rfl, E4, x1, hk3.trans x2 hE3', fun i hi => (x3 i hi).elim (hE3' i) fun h => .inr (Nat.le_trans hk3.size h), hr3.step x2 x3, x2.cell hc3 hn3, fun h => (x3 _ h).elim hn3 fun h => by have := H2.out.2.2; have := hk3.size; omega⟩)
            go_region_with (go_at_call 31; (with_reducible refine HP3.out.mono ?_); rintro e w4 ⟨rfl, h4⟩; have H4 := Lib.hid h4; clear h4)
            all_goals
              by_cases he2 : e2 = 0
              · have HR2 := Lib.hid (show markAppend d A ⟨gen, n, done, st, out⟩ = (A + K, e2, d2) from by rw [HR1.out, if_neg (by simpa using he2)])
                subst he2
                go_wp2_with fail
                go_ret2
                exact ⟨by rw [HR2.out]; rfl, by rw [HR2.out]; exact H4.out.done H2.out.2.1⟩
              · have HR2 := Lib.hid (show markAppend d A ⟨gen, n, done, st, out⟩ = (0, e2, d2) from by rw [HR1.out, if_pos he2])
                have hb2 : (e2 != 0) = true := by simpa using he2
                clear he2
                go_wp2_with fail
                go_ret2
                exact ⟨by rw [HR2.out]; rfl, by rw [HR2.out]; exact H4.out.done H2.out.2.1⟩
          · have hcl2 : spanClear d (a + need L.length : Nat) = (e1, d1) := by
              unfold clearB at hcb
              rw [if_neg (by omega)] at hcb
              exact hcb
            have HC := Lib.hid (show ∀ W E, RefAt w0 W E (.pointer (some ⟨gd, 0, none⟩)) d → Calls Tryz.prog 30 #[.pointer (some ⟨gd, 0, none⟩), .int .i64 (A + K)] W fun e w' => e = .returned (.int .i64 e1) ∧ RStep w0 E W w' (.pointer (some ⟨gd, 0, none⟩)) d1 from fun W E hd => by
              have := rclear_at hd ((a + need L.length : Nat) : Int) (by omega) (by omega)
              rw [hcl2, show ((a + need L.length : Nat) : Int) = A + K by omega] at this
              exact this)
            have hz' : A + K < (N : Int) := by omega
            clear hs ho hn hp h hl hbox hm hJ hN h1 h1' h2 h2' n0 n1 hL hlen hcl hne hK hA hcb hcn hput HM hfit hcl2 hz
            go_enter Tryz.func10, Tryz.ntmps10
            go_wp2_with fail
            refine (HI.out _).mono ?_
            rintro e w1 ⟨rfl, hb1⟩
            have HB1 := Lib.hid (And.intro (HX.out.2.1.trans (hb1.mono HX.out.2.1.size)) (And.intro ((hb1.block _ (by simp)).trans HX.out.2.2) (show w.heap.size < w1.heap.size from by have := hb1.size; simp at this; omega)))
            obtain ⟨c0, c1, c2, c3, c4⟩ := five_cells HB1.out.2.1
            clear hb1
            go_wp2_with fail
            refine (HF.out _ HB1.out.1).mono ?_
            rintro e w2 ⟨rfl, rfl⟩
            obtain ⟨sa, sc, hcs⟩ := HZ.out _ HB1.out.1
            go_wp2_with fail
            refine (HB.out _).mono ?_
            rintro e w2 ⟨q, c, rfl, ho2, hb2⟩
            have hb02 := HB1.out.1.trans (hb2.mono HB1.out.1.size)
            have H2 := Lib.hid (show AppR w0 D w2 (.pointer (some ⟨gd, 0, none⟩)) (.slice q L.length c) L w.heap.size gen w2 d ∧ Below w.heap.size w w2 ∧ w.heap.size < w2.heap.size from
              ⟨⟨D, HX.out.1.below hb02, Kept.refl _ _, fun i hi => .inl hi, ⟨ho2.row, fun b o n' c' hv h0 hd => by
                  subst_vars
                  have h1 := HD.out b hd
                  have h2 := (ho2.lt b (by cases hv; rfl)).1
                  have h3 := HB1.out.2.2
                  omega⟩, (five_cells ((hb2.block _ HB1.out.2.2).trans HB1.out.2.1)).1, fun hd => Nat.lt_irrefl _ (HD.out _ hd)⟩, hb02, Nat.lt_of_lt_of_le HB1.out.2.2 hb2.size⟩)
            clear ho2 hb2 hb02 c0 c1 c2 c3 c4 hcs
            go_wp2_with fail
            refine (HN.out _).mono ?_
            rintro e w3 ⟨rfl, rfl⟩
            obtain ⟨sa3, sc3, hcs3⟩ := HZ.out _ H2.out.2.1
            go_wp2_with fail
            have HC3 := Lib.hid (show Calls Tryz.prog 30 #[.pointer (some ⟨gd, 0, none⟩), .int .i64 (A + K)] w2 fun e w' => e = .returned (.int .i64 e1) ∧ AppR w0 D w2 (.pointer (some ⟨gd, 0, none⟩)) (.slice q L.length c) L w.heap.size gen w' d1 from by
              obtain ⟨E2, hE2, hk2, hE2', hr2, hc2, hn2⟩ := H2.out.1
              refine (HC.out _ E2 hE2).mono ?_
              rintro e w3 ⟨rfl, E3, x1, x2, x3⟩
              exact ⟨rfl, E3, x1, hk2.trans x2 hE2', fun i hi => (x3 i hi).elim (hE2' i) fun h => .inr (Nat.le_trans hk2.size h), hr2.step x2 x3, x2.cell hc2 hn2, fun h => (x3 _ h).elim hn2 fun h => by have := H2.out.2.2; have := hk2.size; omega⟩)
            refine HC3.out.mono ?_
            rintro e w3 ⟨rfl, h3⟩
            have H3 := Lib.hid h3
            clear h3 hcs3
            by_cases he1 : e1 = 0
            · have HR1 := Lib.hid (show markAppend d A ⟨gen, n, done, st, out⟩ = if e2 ≠ 0 then (0, e2, d2) else (A + K, e2, d2) from by rw [HR.out, if_neg (by simpa using he1)])
              subst he1
              go_wp2_with fail
              have hgc5 := H3.out.drew.cell
              have hcs5 : ∃ a c, w3.drew.cell? ⟨gd, 0, none⟩ = some (.slice a N c) := by
                obtain ⟨E3, hE3, -⟩ := H3.out.drew.disk
                exact HS1.out _ E3 hE3
              obtain ⟨sa5, sc5, hcs5⟩ := hcs5
              have HP3 := Lib.hid (show Calls Tryz.prog 31 #[.pointer (some ⟨gd, 0, none⟩), .int .i64 A, .int .i64 ((N : Int) - A), .int .u32 (gen + 1), .slice q L.length c] w3.drew fun e w' => e = .returned (.int .i64 e2) ∧ AppR w0 D w2 (.pointer (some ⟨gd, 0, none⟩)) (.slice q L.length c) L w.heap.size gen w' d2 from by
                obtain ⟨E3, hE3, hk3, hE3', hr3, hc3, hn3⟩ := H3.out.drew
                refine (HP.out _ E3 q c hE3 hr3).mono ?_
                rintro e w4 ⟨rfl, E4, x1, x2, x3⟩
                exact ⟨rfl, E4, x1, hk3.trans x2 hE3', fun i hi => (x3 i hi).elim (hE3' i) fun h => .inr (Nat.le_trans hk3.size h), hr3.step x2 x3, x2.cell hc3 hn3, fun h => (x3 _ h).elim hn3 fun h => by have := H2.out.2.2; have := hk3.size; omega⟩)
              go_region_with (go_at_call 31; (with_reducible refine HP3.out.mono ?_); rintro e w4 ⟨rfl, h4⟩; have H4 := Lib.hid h4; clear h4)
              all_goals
                by_cases he2 : e2 = 0
                · have HR2 := Lib.hid (show markAppend d A ⟨gen, n, done, st, out⟩ = (A + K, e2, d2) from by rw [HR1.out, if_neg (by simpa using he2)])
                  subst he2
                  go_wp2_with fail
                  go_ret2
                  exact ⟨by rw [HR2.out]; rfl, by rw [HR2.out]; exact H4.out.done H2.out.2.1⟩
                · have HR2 := Lib.hid (show markAppend d A ⟨gen, n, done, st, out⟩ = (0, e2, d2) from by rw [HR1.out, if_pos he2])
                  have hb2 : (e2 != 0) = true := by simpa using he2
                  clear he2
                  go_wp2_with fail
                  go_ret2
                  exact ⟨by rw [HR2.out]; rfl, by rw [HR2.out]; exact H4.out.done H2.out.2.1⟩
            · have HR1 := Lib.hid (show markAppend d A ⟨gen, n, done, st, out⟩ = (0, e1, d1) from by rw [HR.out, if_pos he1])
              have hb1 : (e1 != 0) = true := by simpa using he1
              have hb2 : (e1 == 0) = false := by simpa using he1
              clear he1
              go_wp2_with fail
              go_ret2
              exact ⟨by rw [HR1.out]; rfl, by rw [HR1.out]; exact H3.out.done H2.out.2.1⟩
  · have hm' : Mk.is ⟨gen, n, done, st, out⟩ = false := by simpa using hm
    rw [hm'] at HI
    have HM := Lib.hid (append_out d at_ ⟨gen, n, done, st, out⟩ (.inl hm'))
    rw [HM.out]
    clear hs ho hn hp h hl hbox hm hm'
    go_enter Tryz.func10, Tryz.ntmps10
    go_wp2_with fail
    refine (HI.out _).mono ?_
    rintro e w1 ⟨rfl, hb1⟩
    have HB1 := Lib.hid (HX.out.2.1.trans (hb1.mono HX.out.2.1.size))
    clear hb1
    go_wp2_with fail
    go_ret2
    exact ⟨rfl, (RStep.same HX.out.1).below HB1.out⟩
end Go.Proofs.YtilplpjdbkipoaaGreatDoor

namespace Go.Proofs.YtilplpjdbkipoaaGreatDoor
open Go Go.RowKit DiskMath NetMath NetMem SpanMath SumMath MarkMath

theorem results_cell_two {fn : Func} {p u v : Tmp} {ty : TypeId} (h : fn.results = #[.cell p ty, .tmp u, .tmp v]) (tmps : Array Value) (P : Program) (w : World) :
    (results fn tmps).run P w =
      ((asAddr (tmps.getD p undef)).run P w).andThen fun a w₁ => ((loadVar ty a).run P w₁).andThen fun x w₂ => .ok (.tuple #[x, tmps.getD u undef, tmps.getD v undef]) w₂ := by
  simp only [results, h]
  simp [Sem.run_bind, Result.andThen]
theorem ret_two {fn : Func} (hf : fn.results = #[.cell 6 35, .tmp 7, .tmp 8]) {tmps : Array Value} {k : Nat} {m x y : Value} {w : World} (hl : (loadVar 35 ⟨k, 0, none⟩).run Tryz.prog w = .ok m w) (h6 : tmps.getD 6 undef = .pointer (some ⟨k, 0, none⟩)) (h7 : tmps.getD 7 undef = x) (h8 : tmps.getD 8 undef = y) :
    (results fn tmps).run Tryz.prog w = .ok (.tuple #[m, x, y]) w := by
  rw [results_cell_two hf, h6, h7, h8]
  simp [asAddr, Result.andThen, hl]
/-- A result's variable that reads 0, and how it is written. -/
def ZeroAt (w : World) (k : Nat) : Prop := w.heap[k]? = some (.cells #[.int .i64 0, .int .i64 0, .bool false, .int .i64 0, .string ⟨#[]⟩] 35)
theorem gBytes_le {d : Dk} {a : Nat} {t : Nat} {b : List UInt8} (hl : d.s.length ≤ 4000) (h : spanGet d a ((d.s.length : Int) - a) = some (t, b)) : b.length ≤ 100000 := by
  have := (get_fits h).1
  unfold need cnt at this
  omega
theorem six_put {w : World} {k : Nat} {x0 x1 x2 x3 x4 : Value} {t : TypeId} {fr : Nat × Nat} (h : w.heap[k]? = some (.cells #[x0, x1, x2, x3, x4] t fr)) (a b c d e g : Value) :
    (((((((((((w.setCell ⟨k, 0, none⟩ a).setCell ⟨k, 1, none⟩ b).setCell ⟨k, 2, none⟩ c).setCell ⟨k, 3, none⟩ d).setCell ⟨k, 4, none⟩ e).setCell ⟨k, 0, none⟩ g).setCell ⟨k, 0, none⟩ g).setCell ⟨k, 1, none⟩ b).setCell ⟨k, 2, none⟩ c).setCell ⟨k, 3, none⟩ d).setCell ⟨k, 4, none⟩ e).heap[k]? = some (.cells #[g, b, c, d, e] t fr) :=
  five_put (x0 := g) (x1 := b) (x2 := c) (x3 := d) (x4 := e) (heap_set (five_put h a b c d e) 0 g) g b c d e
theorem six_set {B k : Nat} {w w' : World} (hb : Below B w w') (hk : B ≤ k) (a b c d e g : Value) :
    Below B w (((((((((((w'.setCell ⟨k, 0, none⟩ a).setCell ⟨k, 1, none⟩ b).setCell ⟨k, 2, none⟩ c).setCell ⟨k, 3, none⟩ d).setCell ⟨k, 4, none⟩ e).setCell ⟨k, 0, none⟩ g).setCell ⟨k, 0, none⟩ g).setCell ⟨k, 1, none⟩ b).setCell ⟨k, 2, none⟩ c).setCell ⟨k, 3, none⟩ d).setCell ⟨k, 4, none⟩ e) :=
  five_set ((five_set hb hk a b c d e).setCell (p := ⟨k, 0, none⟩) hk g) hk g b c d e
/-- What markAt answers. -/
def atV (o : Option (Mk × Nat)) : Mk := match o with | some (m, _) => m | none => Mk.none
def atK (o : Option (Mk × Nat)) : Nat := match o with | some (_, k) => k | none => 0

set_option maxHeartbeats 4000000 in
set_option maxRecDepth 100000 in
theorem markAt_at {w : World} {D : Nat → Prop} {p : Value} {d : Dk} (h : DiskAt w D p d) (a : Nat) (ha : a ≤ d.s.length) (gen : Int) (g0 : 0 ≤ gen) (g1 : gen ≤ 2147483646) (hg : NetP.Glob w) :
    Calls Tryz.prog 35 #[p, .int .i64 (a : Int), .int .i64 gen] w fun e w' =>
      e = .returned (.tuple #[(atV (markAt d a gen)).v, .int .i64 (atK (markAt d a gen) : Int), .bool (markAt d a gen).isSome]) ∧ Below w.heap.size w w' := by
  have hl : d.s.length ≤ 4000 := by obtain ⟨g, s, pv, lv, rfl, hm, -, -⟩ := h; exact hm.secs.2.2.2.1
  have ha0 : Below w.heap.size w (w.alloc (.cells #[.int .i64 0, .int .i64 0, .bool false, .int .i64 0, .string ⟨#[]⟩] 35)) := (Below.refl _ _).alloc (Nat.le_refl _) _
  obtain ⟨N, hN⟩ : ∃ N : Int, N = (d.s.length : Int) := ⟨_, rfl⟩
  obtain ⟨A, hA⟩ : ∃ A : Int, A = (a : Int) := ⟨_, rfl⟩
  obtain ⟨T, hT⟩ : ∃ T : Int, T = gen + 1 := ⟨_, rfl⟩
  obtain ⟨MA, hMA⟩ : ∃ MA, MA = markAt d a gen := ⟨_, rfl⟩
  rw [← hMA]
  have HZ := Lib.hid (size_at (h.below ha0))
  have HG := Lib.hid (get_at (h.below ha0) (a : Int) ((d.s.length : Int) - a))
  have HT := Lib.hid (fun W => tag_any gen g0 g1 T hT W)
  rw [← hN] at HZ
  rw [← hA, ← hN] at HG
  have a0 : 0 ≤ A := by omega
  have a1 : A ≤ N := by omega
  have a2 : N ≤ 4000 := by omega
  have H0 := Lib.hid (And.intro ha0 (And.intro hg (And.intro hl (heap_alloc_new w (.cells #[.int .i64 0, .int .i64 0, .bool false, .int .i64 0, .string ⟨#[]⟩] 35)))))
  have HME := Lib.hid (show MA = match spanGet d A (N - A) with | some (t, b) => if (t : Int) = T then (markRead b).map fun m => (m.of gen, need b.length) else none | none => none from by rw [hMA, hA, hN, hT]; rfl)
  have HBL := Lib.hid (show ∀ t b, spanGet d A (N - A) = some (t, b) → b.length ≤ 100000 ∧ t < 4294967296 from fun t b e => by rw [hA, hN] at e; exact ⟨gBytes_le hl e, (get_fits e).2⟩)
  have t0 : 0 ≤ T := by omega
  have t1 : T ≤ 2147483647 := by omega
  rw [← hA]
  obtain ⟨o, ho⟩ : ∃ o, o = spanGet d A (N - A) := ⟨_, rfl⟩
  rw [← ho] at HG HME HBL
  clear h ha hg hl ha0 hN hA hT ho hMA
  cases o with
  | none =>
    have HM := Lib.hid (show MA = none from by rw [HME.out])
    rw [HM.out]
    go_enter Tryz.func35, Tryz.ntmps35
    go_wp2_with fail
    refine HZ.out.mono ?_
    rintro e w1 ⟨rfl, rfl⟩
    go_wp2_with fail
    refine HG.out.mono ?_
    rintro e w1 ⟨v, rfl, ho1, hb1⟩
    have H1 := Lib.hid (show ZeroAt w1 w.heap.size ∧ Below w.heap.size w w1 from ⟨(hb1.block _ (by simp)).trans H0.out.2.2.2, H0.out.1.trans (hb1.mono H0.out.1.size)⟩)
    clear ho1 hb1
    obtain ⟨c0, c1, c2, c3, c4⟩ := five_cells H1.out.1
    have fz := five_free H1.out.1
    have f0 := fz 0
    have f1 := fz 1
    have f2 := fz 2
    have f3 := fz 3
    have f4 := fz 4
    clear fz
    go_wp2_with fail
    have hld := load_mark (five_put H1.out.1 (.int .i64 0) (.int .i64 0) (.bool false) (.int .i64 0) (.string ⟨#[]⟩))
    (try simp only [Exit.inBlock, Exit.then])
    refine bodyPost_ret (v := .tuple #[.agg #[.int .i64 0, .int .i64 0, .bool false, .int .i64 0, .string ⟨#[]⟩], .int .i64 0, .bool false]) ?_ rfl ⟨rfl, five_set H1.out.2 (Nat.le_refl _) _ _ _ _ _⟩
    rw [results_cell_two rfl]
    simp [asAddr, Result.andThen, hld]
  | some tb =>
    obtain ⟨t, b⟩ := tb
    have HG : RowKit.Hid (Calls Tryz.prog 54 #[p, .int .i64 A, .int .i64 (N - A)] (w.alloc (.cells #[.int .i64 0, .int .i64 0, .bool false, .int .i64 0, .string ⟨#[]⟩] 35)) fun e w' => ∃ v, e = .returned (.tuple #[.int .u32 (t : Int), v, .bool true]) ∧ NetMem.Own w' (w.alloc (.cells #[.int .i64 0, .int .i64 0, .bool false, .int .i64 0, .string ⟨#[]⟩] 35)).heap.size v b ∧ Below (w.alloc (.cells #[.int .i64 0, .int .i64 0, .bool false, .int .i64 0, .string ⟨#[]⟩] 35)).heap.size (w.alloc (.cells #[.int .i64 0, .int .i64 0, .bool false, .int .i64 0, .string ⟨#[]⟩] 35)) w') := Lib.hid HG.out
    have hbl := (HBL.out t b rfl)
    have HBB := Lib.hid hbl
    obtain ⟨TT, hTT⟩ : ∃ TT : Int, TT = (t : Int) := ⟨_, rfl⟩
    rw [← hTT] at HG
    have tt0 : 0 ≤ TT := by omega
    have tt1 : TT ≤ 4294967295 := by omega
    by_cases ht : TT = T
    · subst ht
      have HBB := Lib.hid (show b.length ≤ 900000 from by omega)
      have hbe : (TT != TT) = false := by simp
      obtain ⟨rv, hrv⟩ : ∃ rv, rv = readV b := ⟨_, rfl⟩
      obtain ⟨gen', n, done, st, out⟩ := rv
      cases hrb : readB b with
      | false =>
        have HM := Lib.hid (show MA = none from by rw [HME.out]; simp only; rw [if_pos (by omega)]; unfold markRead; rw [hrb]; rfl)
        have HRD := Lib.hid (show (⟨gen', n, done, st, out⟩ : Mk) = readV b ∧ readB b = false from ⟨hrv, hrb⟩)
        rw [HM.out]
        clear hbl hTT hrv
        go_enter Tryz.func35, Tryz.ntmps35
        go_wp2_with fail
        refine HZ.out.mono ?_
        rintro e w1 ⟨rfl, rfl⟩
        go_wp2_with fail
        refine HG.out.mono ?_
        rintro e w1 ⟨v, rfl, ho1, hb1⟩
        obtain ⟨q, c, hv, -⟩ := id ho1.row
        subst hv
        have hb01 := H0.out.1.trans (hb1.mono H0.out.1.size)
        have H1 := Lib.hid (show ZeroAt w1 w.heap.size ∧ Below w.heap.size w w1 ∧ Row w1 (.slice q b.length c) b ∧ NetP.Glob w1 from ⟨(hb1.block _ (by simp)).trans H0.out.2.2.2, hb01, ho1.row, H0.out.2.1.below hb01⟩)
        clear ho1 hb1 hb01
        go_wp2_with fail
        refine (HT.out _).mono ?_
        rintro e w2 ⟨rfl, rfl⟩
        go_wp2_with fail
        refine (read_any q c b HBB.out w1 H1.out.2.2.1 H1.out.2.2.2).mono ?_
        rintro e w2 ⟨rfl, hb2⟩
        rw [← HRD.out.1]
        try simp only [Mk.v]
        have H2 := Lib.hid (show ZeroAt w2 w.heap.size ∧ Below w.heap.size w w2 from ⟨(hb2.block _ (Array.getElem?_eq_some_iff.1 H1.out.1).1).trans H1.out.1, H1.out.2.1.trans (hb2.mono H1.out.2.1.size)⟩)
        clear hb2
        obtain ⟨c0, c1, c2, c3, c4⟩ := five_cells H2.out.1
        have fz := five_free H2.out.1
        have f0 := fz 0
        have f1 := fz 1
        have f2 := fz 2
        have f3 := fz 3
        have f4 := fz 4
        clear fz
        rw [hrb]
        clear hrb
        go_wp2_with fail
        have hld := load_mark (five_put (five_put H2.out.1 (.int .i64 gen') (.int .i64 n) (.bool done) (.int .i64 st) (.string out)) (.int .i64 0) (.int .i64 0) (.bool false) (.int .i64 0) (.string ⟨#[]⟩))
        (try simp only [Exit.inBlock, Exit.then])
        refine bodyPost_ret (v := .tuple #[.agg #[.int .i64 0, .int .i64 0, .bool false, .int .i64 0, .string ⟨#[]⟩], .int .i64 0, .bool false]) ?_ rfl ⟨rfl, five_set (five_set H2.out.2 (Nat.le_refl _) _ _ _ _ _) (Nat.le_refl _) _ _ _ _ _⟩
        rw [results_cell_two rfl]
        simp [asAddr, Result.andThen, hld]
      | true =>
        obtain ⟨KK, hKK⟩ : ∃ KK : Int, KK = ((need b.length : Nat) : Int) := ⟨_, rfl⟩
        have HNE := Lib.hid (fun W => need_any b.length W (by omega))
        rw [← hKK] at HNE
        have HM := Lib.hid (show MA = some (⟨gen, n, done, st, out⟩, need b.length) from by
          rw [HME.out]
          simp only
          rw [if_pos (by omega)]
          unfold markRead
          rw [hrb, if_pos rfl, Option.map_some, show readM b = ⟨gen', n, done, st, out⟩ by rw [hrv]; unfold readV; rw [if_pos hrb]]
          rfl)
        have HRD := Lib.hid (show (⟨gen', n, done, st, out⟩ : Mk) = readV b ∧ ((need b.length : Nat) : Int) = KK from ⟨hrv, hKK.symm⟩)
        rw [HM.out]
        clear hbl hTT hrv hKK
        go_enter Tryz.func35, Tryz.ntmps35
        go_wp2_with fail
        refine HZ.out.mono ?_
        rintro e w1 ⟨rfl, rfl⟩
        go_wp2_with fail
        refine HG.out.mono ?_
        rintro e w1 ⟨v, rfl, ho1, hb1⟩
        obtain ⟨q, c, hv, -⟩ := id ho1.row
        subst hv
        have hb01 := H0.out.1.trans (hb1.mono H0.out.1.size)
        have H1 := Lib.hid (show ZeroAt w1 w.heap.size ∧ Below w.heap.size w w1 ∧ Row w1 (.slice q b.length c) b ∧ NetP.Glob w1 from ⟨(hb1.block _ (by simp)).trans H0.out.2.2.2, hb01, ho1.row, H0.out.2.1.below hb01⟩)
        clear ho1 hb1 hb01
        go_wp2_with fail
        refine (HT.out _).mono ?_
        rintro e w2 ⟨rfl, rfl⟩
        go_wp2_with fail
        refine (read_any q c b HBB.out w1 H1.out.2.2.1 H1.out.2.2.2).mono ?_
        rintro e w2 ⟨rfl, hb2⟩
        rw [← HRD.out.1]
        try simp only [Mk.v]
        have H2 := Lib.hid (show ZeroAt w2 w.heap.size ∧ Below w.heap.size w w2 from ⟨(hb2.block _ (Array.getElem?_eq_some_iff.1 H1.out.1).1).trans H1.out.1, H1.out.2.1.trans (hb2.mono H1.out.2.1.size)⟩)
        clear hb2
        obtain ⟨c0, c1, c2, c3, c4⟩ := five_cells H2.out.1
        have fz := five_free H2.out.1
        have f0 := fz 0
        have f1 := fz 1
        have f2 := fz 2
        have f3 := fz 3
        have f4 := fz 4
        clear fz
        rw [hrb]
        clear hrb
        go_wp2_with fail
        go_region_with (go_at_call 23; refine (HNE.out _).mono ?_; rintro e w3 ⟨rfl, rfl⟩)
        all_goals
          go_wp2_with fail
          have hld := six_put H2.out.1 (.int .i64 gen') (.int .i64 n) (.bool done) (.int .i64 st) (.string out) (.int .i64 gen)
          have hbl := six_set H2.out.2 (Nat.le_refl _) (.int .i64 gen') (.int .i64 n) (.bool done) (.int .i64 st) (.string out) (.int .i64 gen)
          have HFIN := Lib.hid (And.intro hld hbl)
          clear hld hbl
          generalize ((((((((((w2.setCell ⟨w.heap.size, 0, none⟩ (.int .i64 gen')).setCell ⟨w.heap.size, 1, none⟩ (.int .i64 n)).setCell ⟨w.heap.size, 2, none⟩ (.bool done)).setCell ⟨w.heap.size, 3, none⟩ (.int .i64 st)).setCell ⟨w.heap.size, 4, none⟩ (.string out)).setCell ⟨w.heap.size, 0, none⟩ (.int .i64 gen)).setCell ⟨w.heap.size, 0, none⟩ (.int .i64 gen)).setCell ⟨w.heap.size, 1, none⟩ (.int .i64 n)).setCell ⟨w.heap.size, 2, none⟩ (.bool done)).setCell ⟨w.heap.size, 3, none⟩ (.int .i64 st)).setCell ⟨w.heap.size, 4, none⟩ (.string out) = W9 at HFIN ⊢
          (try simp only [Exit.inBlock, Exit.then])
          refine bodyPost_ret (v := .tuple #[.agg #[.int .i64 gen, .int .i64 n, .bool done, .int .i64 st, .string out], .int .i64 KK, .bool true]) (ret_two rfl (load_mark (w := W9.drew) HFIN.out.1) rfl rfl rfl) rfl ⟨by rw [← HRD.out.2]; rfl, HFIN.out.2.drew⟩
    · have HM := Lib.hid (show MA = none from by rw [HME.out]; simp only; rw [if_neg (by omega)])
      rw [HM.out]
      have hb : (TT != T) = true := by simpa using ht
      clear hbl hTT ht
      go_enter Tryz.func35, Tryz.ntmps35
      go_wp2_with fail
      refine HZ.out.mono ?_
      rintro e w1 ⟨rfl, rfl⟩
      go_wp2_with fail
      refine HG.out.mono ?_
      rintro e w1 ⟨v, rfl, ho1, hb1⟩
      have H1 := Lib.hid (show ZeroAt w1 w.heap.size ∧ Below w.heap.size w w1 from ⟨(hb1.block _ (by simp)).trans H0.out.2.2.2, H0.out.1.trans (hb1.mono H0.out.1.size)⟩)
      clear ho1 hb1
      go_wp2_with fail
      refine (HT.out _).mono ?_
      rintro e w2 ⟨rfl, rfl⟩
      obtain ⟨c0, c1, c2, c3, c4⟩ := five_cells H1.out.1
      have fz := five_free H1.out.1
      have f0 := fz 0
      have f1 := fz 1
      have f2 := fz 2
      have f3 := fz 3
      have f4 := fz 4
      clear fz
      go_wp2_with fail
      have hld := load_mark (five_put H1.out.1 (.int .i64 0) (.int .i64 0) (.bool false) (.int .i64 0) (.string ⟨#[]⟩))
      (try simp only [Exit.inBlock, Exit.then])
      refine bodyPost_ret (v := .tuple #[.agg #[.int .i64 0, .int .i64 0, .bool false, .int .i64 0, .string ⟨#[]⟩], .int .i64 0, .bool false]) ?_ rfl ⟨rfl, five_set H1.out.2 (Nat.le_refl _) _ _ _ _ _⟩
      rw [results_cell_two rfl]
      simp [asAddr, Result.andThen, hld]
end Go.Proofs.YtilplpjdbkipoaaGreatDoor

namespace Go.Proofs.YtilplpjdbkipoaaGreatDoor
open Go Go.RowKit DiskMath NetMath NetMem SpanMath SumMath MarkMath

/-- A row of marks, cell by cell. -/
def mcells (l : List Mk) : List Value := l.flatMap Mk.cells
theorem mcells_snoc (l : List Mk) (m : Mk) : mcells (l ++ [m]) = mcells l ++ m.cells := by simp [mcells]
theorem mcells_len : ∀ l : List Mk, (mcells l).length = l.length * 5
  | [] => rfl
  | m :: l => by
    have := mcells_len l
    simp only [mcells, List.flatMap_cons, List.length_append, List.length_cons] at this ⊢
    rw [this]
    show 5 + l.length * 5 = _
    omega
/-- A row of marks that the call owns. -/
def OwnM (w : World) (B : Nat) (v : Value) (l : List Mk) : Prop := w.ownsRow B 35 5 v l.length (mcells l)
theorem OwnM.below {w w' : World} {B : Nat} {v : Value} {l : List Mk} (h : OwnM w B v l) (hb : Below w.heap.size w w') : OwnM w' B v l :=
  ownsRow_block h fun k hk => hb.block k (h.lt k hk).2
theorem OwnM.nil (w : World) (B : Nat) : OwnM w B (.slice none 0 0) [] := World.ownsRow_nil _ _ _ _
theorem info_mark : (Tryz.prog.info? 35).map (fun i => (i.zero, i.size, i.bytes)) = some (some (.agg #[.int .i64 0, .int .i64 0, .bool false, .int .i64 0, .string ⟨#[]⟩]), 5, 48) := by kernel_rfl
theorem mark_one (m : Mk) : ∀ u ∈ m.cells, u.oneCell' = true := by
  intro u hu
  simp only [Mk.cells, List.mem_cons, List.not_mem_nil, or_false] at hu
  rcases hu with rfl | rfl | rfl | rfl | rfl <;> rfl
def RelS (d : Dk) (gen : Int) (w : World) (v a : Value) (wr : World) : Prop :=
  ∃ (pre : List Mk) (k f : Nat), a = .int .i64 (k : Int) ∧ k ≤ d.s.length ∧ d.s.length + 1 ≤ f + k ∧ pre.length ≤ k ∧
    scanFrom d gen (d.s.length + 1) (2 * room d) = (pre ++ (scanFrom d gen f k).1, (scanFrom d gen f k).2) ∧ OwnM wr w.heap.size v pre ∧ Below w.heap.size w wr

set_option maxHeartbeats 4000000 in
set_option maxRecDepth 100000 in
theorem scan_at {w : World} {D : Nat → Prop} {p : Value} {d : Dk} (h : DiskAt w D p d) (gen : Int) (hg : NetP.Glob w) :
    Calls Tryz.prog 13 #[p, .int .i64 gen] w fun e w' => ∃ v, e = .returned (.tuple #[v, .int .i64 ((markScan d gen).2 : Int)]) ∧ OwnM w' w.heap.size v (markScan d gen).1 ∧ Below w.heap.size w w' := by
  have hl : d.s.length ≤ 4000 := by obtain ⟨g, s, pv, lv, rfl, hm, -, -⟩ := h; exact hm.secs.2.2.2.1
  have HF := Lib.hid (first_at h)
  have HI := Lib.hid (fun W => isGen_any gen W)
  have hr : 2 * room d ≤ d.s.length := by unfold room; omega
  rw [show jFrom d = ((2 * room d : Nat) : Int) by unfold jFrom; omega] at HF
  cases hgb : isGenB gen with
  | false =>
    rw [hgb] at HI
    have HM := Lib.hid (show markScan d gen = ([], 2 * room d) from by unfold markScan; rw [hgb]; rfl)
    rw [HM.out]
    clear h hl hr hg hgb
    go_enter Tryz.func13, Tryz.ntmps13
    go_wp2_with fail
    refine HF.out.mono ?_
    rintro e w1 ⟨rfl, rfl⟩
    go_wp2_with fail
    refine (HI.out _).mono ?_
    rintro e w1 ⟨rfl, rfl⟩
    go_wp2_with fail
    go_ret2
    exact ⟨_, rfl, OwnM.nil _ _, Below.refl _ _⟩
  | true =>
    rw [hgb] at HI
    have HM := Lib.hid (show markScan d gen = scanFrom d gen (d.s.length + 1) (2 * room d) from by unfold markScan; rw [hgb]; rfl)
    rw [HM.out]
    have hg2 : 0 ≤ gen ∧ gen ≤ 2147483646 := by simpa [isGenB] using hgb
    obtain ⟨i0, hi, hz0, hz1, hz2⟩ := info_parts info_mark
    have HZ := Lib.hid (And.intro hi (And.intro hz0 (And.intro hz1 hz2)))
    have HX := Lib.hid (And.intro h (And.intro hg (And.intro hg2 (And.intro hl hr))))
    clear h hl hr hg hgb hg2 hi hz0 hz1 hz2
    go_enter Tryz.func13, Tryz.ntmps13
    go_wp2_with fail
    refine HF.out.mono ?_
    rintro e w1 ⟨rfl, rfl⟩
    go_wp2_with fail
    refine (HI.out _).mono ?_
    rintro e w1 ⟨rfl, rfl⟩
    go_wp2_with fail
    go_loopw [4, 5] (fun v a wr => RelS d gen w v a wr) (fun _ a _ => d.s.length + 1 - (intOf a).toNat)
    case atStart => exact ⟨[], 2 * room d, d.s.length + 1, rfl, HX.out.2.2.2.2, by omega, by simp, by simp, OwnM.nil _ _, Below.refl _ _⟩
    case round =>
      obtain ⟨pre, k, f, rfl, hk, hf, hpl, hsc, hown, hb⟩ := hrel
      have HC := Lib.hid (markAt_at (HX.out.1.below hb) k hk gen HX.out.2.2.1.1 HX.out.2.2.1.2 (HX.out.2.1.below hb))
      obtain ⟨o, ho⟩ : ∃ o, o = markAt d k gen := ⟨_, rfl⟩
      rw [← ho] at HC
      have HR := Lib.hid (And.intro hk (And.intro hf (And.intro hpl (And.intro hsc (And.intro hown (And.intro hb ho))))))
      clear hk hf hpl hsc hown hb ho
      cases o with
      | none =>
        have HC : RowKit.Hid (Calls Tryz.prog 35 #[p, .int .i64 (k : Int), .int .i64 gen] wr fun e w' => e = .returned (.tuple #[.agg #[.int .i64 0, .int .i64 0, .bool false, .int .i64 0, .string ⟨#[]⟩], .int .i64 0, .bool false]) ∧ Below wr.heap.size wr w') := Lib.hid HC.out
        go_wp2_with fail
        refine HC.out.mono ?_
        rintro e w2 ⟨rfl, hb2⟩
        have H2 := Lib.hid (And.intro (HR.out.2.2.2.2.1.below hb2) (HR.out.2.2.2.2.2.1.trans (hb2.mono HR.out.2.2.2.2.2.1.size)))
        clear hb2
        go_wp2_with fail
        go_ret2
        have hS : scanFrom d gen (d.s.length + 1) (2 * room d) = (pre, k) := by
          rw [HR.out.2.2.2.1, scan_stop HR.out.2.2.2.2.2.2.symm, List.append_nil]
        rw [hS]
        have ha2 : Below w2.heap.size w2 (w2.alloc (.cells #[.int .i64 0, .int .i64 0, .bool false, .int .i64 0, .string ⟨#[]⟩] 35)) := (Below.refl _ _).alloc (Nat.le_refl _) _
        exact ⟨_, rfl, H2.out.1.below ha2, H2.out.2.trans (ha2.mono H2.out.2.size)⟩
      | some mk =>
        obtain ⟨⟨g', n, done, st, out⟩, kk⟩ := mk
        have hfit := markAt_fits HR.out.2.2.2.2.2.2.symm
        obtain ⟨f', hf'⟩ : ∃ f', f = f' + 1 := ⟨f - 1, by have := HR.out.1; have := HR.out.2.1; omega⟩
        have HS := Lib.hid (show scanFrom d gen (d.s.length + 1) (2 * room d) = ((pre ++ [⟨g', n, done, st, out⟩]) ++ (scanFrom d gen f' (k + kk)).1, (scanFrom d gen f' (k + kk)).2) from by
          rw [HR.out.2.2.2.1, hf']
          simp only [scanFrom]
          rw [← HR.out.2.2.2.2.2.2]
          simp)
        have HC : RowKit.Hid (Calls Tryz.prog 35 #[p, .int .i64 (k : Int), .int .i64 gen] wr fun e w' => e = .returned (.tuple #[.agg #[.int .i64 g', .int .i64 n, .bool done, .int .i64 st, .string out], .int .i64 (kk : Int), .bool true]) ∧ Below wr.heap.size wr w') := Lib.hid HC.out
        have hk0 : (k : Int) ≤ 4000 := by have := HX.out.2.2.2.1; omega
        have hk1 : (kk : Int) ≤ 4000 := by have := HX.out.2.2.2.1; omega
        have HFIT := Lib.hid (And.intro hfit hf')
        clear hfit hf'
        go_wp2_with fail
        refine HC.out.mono ?_
        rintro e w2 ⟨rfl, hb2⟩
        have H2 := Lib.hid (And.intro (HR.out.2.2.2.2.1.below hb2) (HR.out.2.2.2.2.2.1.trans (hb2.mono HR.out.2.2.2.2.2.1.size)))
        clear hb2
        obtain ⟨O1, hO1⟩ : ∃ O1, O1 = Obj.cells #[.int .i64 g', .int .i64 n, .bool done, .int .i64 st, .string out] 35 := ⟨_, rfl⟩
        have ha2 : Below w2.heap.size w2 ((w2.alloc O1).alloc O1) := ((Below.refl _ _).alloc (Nat.le_refl _) _).alloc (by simp) _
        have hown2 : OwnM ((w2.alloc O1).alloc O1) w.heap.size u4 pre := H2.out.1.below ha2
        have hb02 : Below w.heap.size w ((w2.alloc O1).alloc O1) := H2.out.2.trans (ha2.mono H2.out.2.size)
        have hnews := World.news_of_block (w := (w2.alloc O1).alloc O1) (B := w2.heap.size + 1) (cs := #[.int .i64 g', .int .i64 n, .bool done, .int .i64 st, .string out]) (t := 35) (fr := (0, 0)) (by
          have := heap_alloc_new (w2.alloc O1) O1
          rw [← hO1]
          simpa using this)
        rw [hO1] at ha2 hown2 hb02 hnews
        have hlen0 := mcells_len pre
        go_wp2_with (at_builtin; refine wpList_append_lies _ rfl _ _ 22 rfl w.heap.size 35 i0 (.agg #[.int .i64 0, .int .i64 0, .bool false, .int .i64 0, .string ⟨#[]⟩]) 5 48 Tryz.underlying22 HZ.out.1 HZ.out.2.1 HZ.out.2.2.1 HZ.out.2.2.2 rfl (by decide) u4 pre.length (mcells pre) rfl hown2 ⟨w2.heap.size + 1, 0, none⟩ 1 1 (Mk.cells ⟨g', n, done, st, out⟩) rfl rfl hnews (mark_one _) (by decide) ?h63 ?hby ?hbase (w2.heap.size + 2) (by simp) ?_)
        case h63 => have := HR.out.2.2.1; have := HR.out.1; have := HX.out.2.2.2.1; unfold maxLen; omega
        case hby => have := HR.out.2.2.1; have := HR.out.1; have := HX.out.2.2.2.1; omega
        case hbase => exact hb02.size
        intro g cap w3 ho3 hg3 hat3 hlt3
        have hb3 := hb02.grown hg3 hb02.size (fun k hk => (hown2.lt k hk).1)
        have H3 := Lib.hid (show OwnM w3 w.heap.size (.slice (some ⟨g, 0, none⟩) (pre.length + 1) cap) (pre ++ [⟨g', n, done, st, out⟩]) ∧ Below w.heap.size w w3 from by
          refine ⟨?_, hb3⟩
          unfold OwnM
          rw [mcells_snoc, List.length_append]
          exact ho3)
        clear ho3 hg3 hat3 hlt3 hb3 ha2 hown2 hb02 hnews hlen0 hO1
        go_wp2_with fail
        refine ⟨⟨pre ++ [⟨g', n, done, st, out⟩], k + kk, f', by go_num, HFIT.out.1.1, by have := HFIT.out; have := HR.out.2.1; omega, by have := HFIT.out; have := HR.out.2.2.1; simp; omega, HS.out, H3.out.1, H3.out.2⟩, by have := HFIT.out; simp [intOf]; omega⟩
end Go.Proofs.YtilplpjdbkipoaaGreatDoor

namespace Go.Proofs.YtilplpjdbkipoaaGreatDoor
open Go Go.RowKit DiskMath NetMath NetMem SpanMath SumMath MarkMath

/-- The mark that a span is. -/
def markOf (o : Option (Nat × List UInt8)) (gen : Int) : Option (Mk × Nat) :=
  match o with
  | some (t, b) => if (t : Int) = gen + 1 then (markRead b).map fun m => (m.of gen, need b.length) else none
  | none => none

set_option maxHeartbeats 4000000 in
set_option maxRecDepth 100000 in
theorem rscan_out {w0 w : World} {D : Nat → Prop} {p : Value} {d : Dk} (h : RefAt w0 w D p d) (gen : Int) (hgb : isGenB gen = false) :
    Calls Tryz.prog 14 #[p, .int .i64 gen] w fun e w' => ∃ v, e = .returned (.tuple #[v, .int .i64 ((markScan d gen).2 : Int)]) ∧ OwnM w' w.heap.size v (markScan d gen).1 ∧ Below w.heap.size w w' := by
  have hl := h.max
  have HF := Lib.hid (rfrom_at h)
  have hr : 2 * room d ≤ d.s.length := by unfold room; omega
  rw [show jFrom d = ((2 * room d : Nat) : Int) by unfold jFrom; omega] at HF
  have HM := Lib.hid (show markScan d gen = ([], 2 * room d) from by unfold markScan; rw [hgb]; rfl)
  have hg2 : gen < 0 ∨ (0 ≤ gen ∧ 2147483647 ≤ gen) := by
    have : ¬ (0 ≤ gen ∧ gen ≤ 2147483646) := fun hh => by rw [show isGenB gen = true by simpa [isGenB] using hh] at hgb; cases hgb
    omega
  rw [HM.out]
  obtain ⟨R, hR⟩ : ∃ R, R = 2 * room d := ⟨_, rfl⟩
  rw [← hR] at HF ⊢
  clear h hl hr hgb HM hR
  rcases hg2 with g0 | ⟨g0, g1⟩
  all_goals
    go_enter Tryz.func14, Tryz.ntmps14
    go_wp2_with fail
    refine HF.out.mono ?_
    rintro e w1 ⟨rfl, rfl⟩
    go_wp2_with fail
    go_loopw [6, 7] (fun a v wr => a = .int .i64 (R : Int) ∧ v = .slice none 0 0 ∧ wr = w) (fun _ _ _ => 0)
    case atStart => exact ⟨rfl, rfl, rfl⟩
    case round =>
      obtain ⟨rfl, rfl, rfl⟩ := hrel
      go_wp2_with fail
      go_ret2
      exact ⟨_, rfl, OwnM.nil _ _, Below.refl _ _⟩

set_option maxHeartbeats 4000000 in
set_option maxRecDepth 100000 in
theorem rscan_in {w0 w : World} {D : Nat → Prop} {gd : Nat} {d : Dk} (h : RefAt w0 w D (.pointer (some ⟨gd, 0, none⟩)) d) (gen : Int) (hgb : isGenB gen = true) :
    Calls Tryz.prog 14 #[.pointer (some ⟨gd, 0, none⟩), .int .i64 gen] w fun e w' => ∃ v, e = .returned (.tuple #[v, .int .i64 ((markScan d gen).2 : Int)]) ∧ OwnM w' w.heap.size v (markScan d gen).1 ∧ Below w.heap.size w w' := by
  have hl : d.s.length ≤ 4000 := h.max
  have HF := Lib.hid (rfrom_at h)
  have hr : 2 * room d ≤ d.s.length := by unfold room; omega
  rw [show jFrom d = ((2 * room d : Nat) : Int) by unfold jFrom; omega] at HF
  have HM := Lib.hid (show markScan d gen = scanFrom d gen (d.s.length + 1) (2 * room d) from by unfold markScan; rw [hgb]; rfl)
  rw [HM.out]
  obtain ⟨g0, g1⟩ : 0 ≤ gen ∧ gen ≤ 2147483646 := by simpa [isGenB] using hgb
  obtain ⟨i0, hi, hz0, hz1, hz2⟩ := info_parts info_mark
  obtain ⟨N, hN⟩ : ∃ N, N = d.s.length := ⟨_, rfl⟩
  have n4 : (N : Int) ≤ 4000 := by omega
  have HZ := Lib.hid (And.intro hi (And.intro hz0 (And.intro hz1 hz2)))
  have HX := Lib.hid (And.intro h (And.intro hN (And.intro hl hr)))
  have HSC := Lib.hid (show ∀ W, Below w.heap.size w W → ∃ a c, W.cell? ⟨gd, 0, none⟩ = some (.slice a N c) from fun W hW => by rw [hN]; exact (h.below hW).sec_cell)
  clear h hl hr hgb hi hz0 hz1 hz2 hN
  go_enter Tryz.func14, Tryz.ntmps14
  go_wp2_with fail
  refine HF.out.mono ?_
  rintro e w1 ⟨rfl, rfl⟩
  go_wp2_with fail
  go_loopw [6, 7] (fun a v wr => RelS d gen w v a wr) (fun a _ _ => d.s.length + 1 - (intOf a).toNat)
  case atStart => exact ⟨[], 2 * room d, d.s.length + 1, rfl, HX.out.2.2.2, by omega, by simp, by simp, OwnM.nil _ _, Below.refl _ _⟩
  case round =>
    obtain ⟨pre, k, f, rfl, hk, hf, hpl, hsc, hown, hb⟩ := hrel
    have HC := Lib.hid (rget_at (HX.out.1.below hb) (k : Int) ((d.s.length : Int) - k))
    rw [← HX.out.2.1] at HC hk
    obtain ⟨o, ho⟩ : ∃ o, o = spanGet d (k : Int) ((N : Int) - k) := ⟨_, rfl⟩
    rw [← ho] at HC
    have HMA := Lib.hid (show markAt d k gen = markOf o gen from by rw [ho, HX.out.2.1]; rfl)
    have HBL := Lib.hid (show ∀ t b, o = some (t, b) → b.length ≤ 100000 ∧ t < 4294967296 from fun t b e => by rw [ho, HX.out.2.1] at e; exact ⟨gBytes_le HX.out.2.2.1 e, (get_fits e).2⟩)
    obtain ⟨sa, sc, hcs⟩ := HSC.out wr hb
    have hk0 : (k : Int) ≤ (N : Int) := by omega
    have HR := Lib.hid (show d.s.length + 1 ≤ f + k ∧ pre.length ≤ k ∧ scanFrom d gen (d.s.length + 1) (2 * room d) = (pre ++ (scanFrom d gen f k).1, (scanFrom d gen f k).2) ∧ OwnM wr w.heap.size u7 pre ∧ Below w.heap.size w wr ∧ k ≤ N from ⟨hf, hpl, hsc, hown, hb, hk⟩)
    have HSTOP := Lib.hid (show markAt d k gen = none → scanFrom d gen (d.s.length + 1) (2 * room d) = (pre, k) from fun e => by
      rw [hsc, scan_stop e, List.append_nil])
    clear hk hf hpl hsc hown hb ho
    cases o with
    | none =>
      have HST := Lib.hid (HSTOP.out HMA.out)
      go_wp2_with fail
      refine HC.out.mono ?_
      rintro e w2 ⟨v, rfl, ho2, hb2⟩
      obtain ⟨q, c, hv, -⟩ := id ho2.row
      subst hv
      have hrr := rread_any q c [] (by simp) w2 ho2.row
      rw [show readB [] = false by unfold readB; rw [readOk_nil]; rfl, show readV [] = Mk.none by unfold readV; rw [show readB [] = false by unfold readB; rw [readOk_nil]; rfl]; rfl] at hrr
      have HRR := Lib.hid hrr
      have H2 := Lib.hid (And.intro (HR.out.2.2.2.1.below hb2) (HR.out.2.2.2.2.1.trans (hb2.mono HR.out.2.2.2.2.1.size)))
      clear hrr ho2 hb2 hcs
      go_wp2_with fail
      refine HRR.out.mono ?_
      rintro e w3 ⟨rfl, hb3⟩
      have H3 := Lib.hid (And.intro (H2.out.1.below hb3) (H2.out.2.trans (hb3.mono H2.out.2.size)))
      clear hb3
      try simp only [Mk.none, noB, Mk.v]
      go_wp2_with fail
      go_ret2
      rw [HST.out]
      have ha3 : Below w3.heap.size w3 (w3.alloc (.cells #[.int .i64 0, .int .i64 0, .bool false, .int .i64 0, .string ⟨#[]⟩] 35)) := (Below.refl _ _).alloc (Nat.le_refl _) _
      exact ⟨_, rfl, H3.out.1.below ha3, H3.out.2.trans (ha3.mono H3.out.2.size)⟩
    | some tb =>
      obtain ⟨t, b⟩ := tb
      obtain ⟨hbl, htl⟩ := HBL.out t b rfl
      obtain ⟨TT, hTT⟩ : ∃ TT : Int, TT = (t : Int) := ⟨_, rfl⟩
      have HC : RowKit.Hid (Calls Tryz.prog 36 #[.pointer (some ⟨gd, 0, none⟩), .int .i64 (k : Int), .int .i64 ((N : Int) - k)] wr fun e w' => ∃ v, e = .returned (.tuple #[.int .u32 (t : Int), v, .bool true]) ∧ NetMem.Own w' wr.heap.size v b ∧ Below wr.heap.size wr w') := Lib.hid HC.out
      rw [← hTT] at HC
      have tt0 : 0 ≤ TT := by omega
      have tt1 : TT ≤ 4294967295 := by omega
      have HBB := Lib.hid (show b.length ≤ 900000 ∧ (t : Int) = TT from ⟨by omega, hTT.symm⟩)
      have hbl1 : (b.length : Int) ≤ 100000 := by omega
      obtain ⟨KK, hKK⟩ : ∃ KK : Int, KK = ((need b.length : Nat) : Int) := ⟨_, rfl⟩
      have HNE := Lib.hid (fun W => refneed_any b.length W (by omega))
      rw [← hKK] at HNE
      have hcl := cnt_self b.length
      have hnd : need b.length = 1 + cnt b.length := rfl
      have kk0 : 0 ≤ KK := by omega
      have kk1 : KK ≤ 1000000 := by omega
      have HKK := Lib.hid hKK
      obtain ⟨rv, hrv⟩ : ∃ rv, rv = readV b := ⟨_, rfl⟩
      obtain ⟨g', n, done, st, out⟩ := rv
      obtain ⟨is, his⟩ : ∃ is, is = readB b := ⟨_, rfl⟩
      have HRV := Lib.hid (And.intro hrv his)
      have HRD := Lib.hid (fun q c W hW => rread_any q c b HBB.out.1 W hW)
      rw [← hrv, ← his] at HRD
      simp only [Mk.v] at HRD
      clear hbl htl hTT hKK hcl hnd hrv his
      cases is with
      | false =>
        have HST := Lib.hid (HSTOP.out (by rw [HMA.out]; simp only [markOf]; split <;> first | rfl | (unfold markRead; rw [← HRV.out.2]; rfl)))
        go_wp2_with fail
        refine HC.out.mono ?_
        rintro e w2 ⟨v, rfl, ho2, hb2⟩
        obtain ⟨q, c, hv, -⟩ := id ho2.row
        subst hv
        have HRR := Lib.hid (HRD.out q c w2 ho2.row)
        have H2 := Lib.hid (And.intro (HR.out.2.2.2.1.below hb2) (HR.out.2.2.2.2.1.trans (hb2.mono HR.out.2.2.2.2.1.size)))
        clear ho2 hb2 hcs
        go_wp2_with fail
        refine HRR.out.mono ?_
        rintro e w3 ⟨rfl, hb3⟩
        have H3 := Lib.hid (And.intro (H2.out.1.below hb3) (H2.out.2.trans (hb3.mono H2.out.2.size)))
        clear hb3
        go_wp2_with fail
        go_ret2
        rw [HST.out]
        have ha3 : Below w3.heap.size w3 (w3.alloc (.cells #[.int .i64 g', .int .i64 n, .bool done, .int .i64 st, .string out] 35)) := (Below.refl _ _).alloc (Nat.le_refl _) _
        exact ⟨_, rfl, H3.out.1.below ha3, H3.out.2.trans (ha3.mono H3.out.2.size)⟩
      | true =>
        by_cases ht : TT = gen + 1
        · have hbe : (TT != gen + 1) = false := by simpa using ht
          have hM : markAt d k gen = some (⟨gen, n, done, st, out⟩, need b.length) := by
            rw [HMA.out]
            simp only [markOf]
            rw [HBB.out.2, if_pos ht]
            unfold markRead
            rw [← HRV.out.2, if_pos rfl, Option.map_some, show readM b = ⟨g', n, done, st, out⟩ by rw [HRV.out.1]; unfold readV; rw [← HRV.out.2, if_pos rfl]]
            rfl
          have hfit := markAt_fits hM
          obtain ⟨f', hf'⟩ : ∃ f', f = f' + 1 := ⟨f - 1, by have := HR.out.1; have := HR.out.2.2.2.2.2; have := HX.out.2.1; omega⟩
          have HS := Lib.hid (show scanFrom d gen (d.s.length + 1) (2 * room d) = ((pre ++ [⟨gen, n, done, st, out⟩]) ++ (scanFrom d gen f' (k + need b.length)).1, (scanFrom d gen f' (k + need b.length)).2) from by
            rw [HR.out.2.2.1, hf']
            simp only [scanFrom]
            rw [hM]
            simp)
          have HFIT := Lib.hid (And.intro hfit hf')
          clear hM hfit hf' ht
          go_wp2_with fail
          refine HC.out.mono ?_
          rintro e w2 ⟨v, rfl, ho2, hb2⟩
          obtain ⟨q, c, hv, -⟩ := id ho2.row
          subst hv
          have HRR := Lib.hid (HRD.out q c w2 ho2.row)
          have H2 := Lib.hid (And.intro (HR.out.2.2.2.1.below hb2) (HR.out.2.2.2.2.1.trans (hb2.mono HR.out.2.2.2.2.1.size)))
          clear ho2 hb2 hcs
          go_wp2_with fail
          refine HRR.out.mono ?_
          rintro e w3 ⟨rfl, hb3⟩
          have H3 := Lib.hid (And.intro (H2.out.1.below hb3) (H2.out.2.trans (hb3.mono H2.out.2.size)))
          clear hb3
          obtain ⟨O1, hO1⟩ : ∃ O1, O1 = Obj.cells #[.int .i64 gen, .int .i64 n, .bool done, .int .i64 st, .string out] 35 := ⟨_, rfl⟩
          have ha2 : Below w3.heap.size w3 ((w3.alloc O1).alloc O1) := ((Below.refl _ _).alloc (Nat.le_refl _) _).alloc (by simp) _
          have hown2 : OwnM ((w3.alloc O1).alloc O1) w.heap.size u7 pre := H3.out.1.below ha2
          have hb02 : Below w.heap.size w ((w3.alloc O1).alloc O1) := H3.out.2.trans (ha2.mono H3.out.2.size)
          have hnews := World.news_of_block (w := (w3.alloc O1).alloc O1) (B := w3.heap.size + 1) (cs := #[.int .i64 gen, .int .i64 n, .bool done, .int .i64 st, .string out]) (t := 35) (fr := (0, 0)) (by
            have := heap_alloc_new (w3.alloc O1) O1
            rw [← hO1]
            simpa using this)
          rw [hO1] at ha2 hown2 hb02 hnews
          have hlen0 := mcells_len pre
          go_wp2_with (at_builtin; refine wpList_append_lies _ rfl _ _ 22 rfl w.heap.size 35 i0 (.agg #[.int .i64 0, .int .i64 0, .bool false, .int .i64 0, .string ⟨#[]⟩]) 5 48 Tryz.underlying22 HZ.out.1 HZ.out.2.1 HZ.out.2.2.1 HZ.out.2.2.2 rfl (by decide) u7 pre.length (mcells pre) rfl hown2 ⟨w3.heap.size + 1, 0, none⟩ 1 1 (Mk.cells ⟨gen, n, done, st, out⟩) rfl rfl hnews (mark_one _) (by decide) ?h63 ?hby ?hbase (w3.heap.size + 2) (by simp) ?_)
          case h63 => have := HR.out.2.1; have := HR.out.2.2.2.2.2; unfold maxLen; omega
          case hby => have := HR.out.2.1; have := HR.out.2.2.2.2.2; omega
          case hbase => exact hb02.size
          intro g cap w4 ho4 hg4 hat4 hlt4
          have hb4 := hb02.grown hg4 hb02.size (fun k hk => (hown2.lt k hk).1)
          have H4 := Lib.hid (show OwnM w4 w.heap.size (.slice (some ⟨g, 0, none⟩) (pre.length + 1) cap) (pre ++ [⟨gen, n, done, st, out⟩]) ∧ Below w.heap.size w w4 from by
            refine ⟨?_, hb4⟩
            unfold OwnM
            rw [mcells_snoc, List.length_append]
            exact ho4)
          clear ho4 hg4 hat4 hlt4 hb4 ha2 hown2 hb02 hnews hlen0 hO1
          go_wp2_with fail
          refine (HNE.out _).mono ?_
          rintro e w5 ⟨rfl, rfl⟩
          go_wp2_with fail
          refine ⟨⟨pre ++ [⟨gen, n, done, st, out⟩], k + need b.length, f', by have := HKK.out; go_num, HFIT.out.1.1, by have := HFIT.out; have := HR.out.1; omega, by have := HFIT.out; have := HR.out.2.1; simp; omega, HS.out, H4.out.1, H4.out.2⟩, by have := HFIT.out; have := HKK.out; simp [intOf]; omega⟩
        · have hbe : (TT != gen + 1) = true := by simpa using ht
          have HST := Lib.hid (HSTOP.out (by rw [HMA.out]; simp only [markOf]; rw [if_neg (by rw [HBB.out.2]; exact ht)]))
          clear ht
          go_wp2_with fail
          refine HC.out.mono ?_
          rintro e w2 ⟨v, rfl, ho2, hb2⟩
          obtain ⟨q, c, hv, -⟩ := id ho2.row
          subst hv
          have HRR := Lib.hid (HRD.out q c w2 ho2.row)
          have H2 := Lib.hid (And.intro (HR.out.2.2.2.1.below hb2) (HR.out.2.2.2.2.1.trans (hb2.mono HR.out.2.2.2.2.1.size)))
          clear ho2 hb2 hcs
          go_wp2_with fail
          refine HRR.out.mono ?_
          rintro e w3 ⟨rfl, hb3⟩
          have H3 := Lib.hid (And.intro (H2.out.1.below hb3) (H2.out.2.trans (hb3.mono H2.out.2.size)))
          clear hb3
          go_wp2_with fail
          go_ret2
          rw [HST.out]
          have ha3 : Below w3.heap.size w3 (w3.alloc (.cells #[.int .i64 g', .int .i64 n, .bool done, .int .i64 st, .string out] 35)) := (Below.refl _ _).alloc (Nat.le_refl _) _
          exact ⟨_, rfl, H3.out.1.below ha3, H3.out.2.trans (ha3.mono H3.out.2.size)⟩

theorem rscan_at {w0 w : World} {D : Nat → Prop} {p : Value} {d : Dk} (h : RefAt w0 w D p d) (gen : Int) :
    Calls Tryz.prog 14 #[p, .int .i64 gen] w fun e w' => ∃ v, e = .returned (.tuple #[v, .int .i64 ((markScan d gen).2 : Int)]) ∧ OwnM w' w.heap.size v (markScan d gen).1 ∧ Below w.heap.size w w' := by
  obtain ⟨gd, -, -, rfl, -⟩ := h.sectors
  cases hgb : isGenB gen with
  | false => exact rscan_out h gen hgb
  | true => exact rscan_in h gen hgb
end Go.Proofs.YtilplpjdbkipoaaGreatDoor
