/-
  Proved: mark's Scan answers the marks that its model finds, in new memory. Conditions: the disk lies in memory; the library's table and its two sentinel errors read as laid.
-/
import Derived.Test.YtilplpjdbkipoaaDoorMarkDo
import Derived.Deep.RegionWith
namespace Go.Proofs.YtilplpjdbkipoaaDoor
open Go Go.RowKit DiskMath NetMath NetMem SpanMath SumMath MarkMath

theorem results_cell_two {fn : Func} {p u v : Tmp} {ty : TypeId} (h : fn.results = #[.cell p ty, .tmp u, .tmp v]) (tmps : Array Value) (P : Program) (w : World) :
    (results fn tmps).run P w =
      ((asAddr (tmps.getD p undef)).run P w).andThen fun a w₁ => ((loadVar ty a).run P w₁).andThen fun x w₂ => .ok (.tuple #[x, tmps.getD u undef, tmps.getD v undef]) w₂ := by
  simp only [results, h]
  simp [Sem.run_bind, Result.andThen]
theorem ret_two {fn : Func} (hf : fn.results = #[.cell 6 25, .tmp 7, .tmp 8]) {tmps : Array Value} {k : Nat} {m x y : Value} {w : World} (hl : (loadVar 25 ⟨k, 0, none⟩).run Tryd.prog w = .ok m w) (h6 : tmps.getD 6 undef = .pointer (some ⟨k, 0, none⟩)) (h7 : tmps.getD 7 undef = x) (h8 : tmps.getD 8 undef = y) :
    (results fn tmps).run Tryd.prog w = .ok (.tuple #[m, x, y]) w := by
  rw [results_cell_two hf, h6, h7, h8]
  simp [asAddr, Result.andThen, hl]
/-- A result's variable that reads 0, and how it is written. -/
def ZeroAt (w : World) (k : Nat) : Prop := w.heap[k]? = some (.cells #[.int .i64 0, .int .i64 0, .bool false, .int .i64 0, .string ⟨#[]⟩] 25)
theorem gBytes_le {d : Dk} {a : Nat} {t : Nat} {b : List UInt8} (hl : d.s.length ≤ 4000) (h : spanGet d a ((d.s.length : Int) - a) = some (t, b)) : b.length ≤ 100000 := by
  have := (get_fits h).1
  unfold need cnt at this
  omega
theorem six_put {w : World} {k : Nat} {x0 x1 x2 x3 x4 : Value} {t : TypeId} {fr : Nat × Nat} (h : w.heap[k]? = some (.cells #[x0, x1, x2, x3, x4] t fr)) (a b c d e g : Value) :
    (((((((((((w.setCell ⟨k, 0, none⟩ a).setCell ⟨k, 1, none⟩ b).setCell ⟨k, 2, none⟩ c).setCell ⟨k, 3, none⟩ d).setCell ⟨k, 4, none⟩ e).setCell ⟨k, 0, none⟩ g).setCell ⟨k, 0, none⟩ g).setCell ⟨k, 1, none⟩ b).setCell ⟨k, 2, none⟩ c).setCell ⟨k, 3, none⟩ d).setCell ⟨k, 4, none⟩ e).heap[k]? = some (.cells #[g, b, c, d, e] t fr) :=
  five_put (x0 := g) (x1 := b) (x2 := c) (x3 := d) (x4 := e) (heap_set (five_put h a b c d e) 0 g) g b c d e
theorem six_set {B k : Nat} {w w' : World} (hb : Below B w w') (hk : B ≤ k) (a b c d e g : Value) :
    Below B w (((((((((((w'.setCell ⟨k, 0, none⟩ a).setCell ⟨k, 1, none⟩ b).setCell ⟨k, 2, none⟩ c).setCell ⟨k, 3, none⟩ d).setCell ⟨k, 4, none⟩ e).setCell ⟨k, 0, none⟩ g).setCell ⟨k, 0, none⟩ g).setCell ⟨k, 1, none⟩ b).setCell ⟨k, 2, none⟩ c).setCell ⟨k, 3, none⟩ d).setCell ⟨k, 4, none⟩ e) :=
  five_set ((five_set hb hk a b c d e).setCell (p := ⟨k, 0, none⟩) hk g) hk g b c d e
/-- What markAt answers. -/
def atV (o : Option (Mk × Nat)) : Mk := match o with | some (m, _) => m | none => Mk.none
def atK (o : Option (Mk × Nat)) : Nat := match o with | some (_, k) => k | none => 0

set_option maxHeartbeats 4000000 in
set_option maxRecDepth 100000 in
theorem markAt_at {w : World} {D : Nat → Prop} {p : Value} {d : Dk} (h : DiskAt w D p d) (a : Nat) (ha : a ≤ d.s.length) (gen : Int) (g0 : 0 ≤ gen) (g1 : gen ≤ 2147483646) (hg : NetP.Glob w) :
    Calls Tryd.prog 42 #[p, .int .i64 (a : Int), .int .i64 gen] w fun e w' =>
      e = .returned (.tuple #[(atV (markAt d a gen)).v, .int .i64 (atK (markAt d a gen) : Int), .bool (markAt d a gen).isSome]) ∧ Below w.heap.size w w' := by
  have hl : d.s.length ≤ 4000 := by obtain ⟨g, s, pv, lv, rfl, hm, -, -⟩ := h; exact hm.secs.2.2.2.1
  have ha0 : Below w.heap.size w (w.alloc (.cells #[.int .i64 0, .int .i64 0, .bool false, .int .i64 0, .string ⟨#[]⟩] 25)) := (Below.refl _ _).alloc (Nat.le_refl _) _
  obtain ⟨N, hN⟩ : ∃ N : Int, N = (d.s.length : Int) := ⟨_, rfl⟩
  obtain ⟨A, hA⟩ : ∃ A : Int, A = (a : Int) := ⟨_, rfl⟩
  obtain ⟨T, hT⟩ : ∃ T : Int, T = gen + 1 := ⟨_, rfl⟩
  obtain ⟨MA, hMA⟩ : ∃ MA, MA = markAt d a gen := ⟨_, rfl⟩
  rw [← hMA]
  have HZ := Lib.hid (size_at (h.below ha0))
  have HG := Lib.hid (get_at (h.below ha0) (a : Int) ((d.s.length : Int) - a))
  have HT := Lib.hid (fun W => tag_any gen g0 g1 T hT W)
  rw [← hN] at HZ
  rw [← hA, ← hN] at HG
  have a0 : 0 ≤ A := by omega
  have a1 : A ≤ N := by omega
  have a2 : N ≤ 4000 := by omega
  have H0 := Lib.hid (And.intro ha0 (And.intro hg (And.intro hl (heap_alloc_new w (.cells #[.int .i64 0, .int .i64 0, .bool false, .int .i64 0, .string ⟨#[]⟩] 25)))))
  have HME := Lib.hid (show MA = match spanGet d A (N - A) with | some (t, b) => if (t : Int) = T then (markRead b).map fun m => (m.of gen, need b.length) else none | none => none from by rw [hMA, hA, hN, hT]; rfl)
  have HBL := Lib.hid (show ∀ t b, spanGet d A (N - A) = some (t, b) → b.length ≤ 100000 ∧ t < 4294967296 from fun t b e => by rw [hA, hN] at e; exact ⟨gBytes_le hl e, (get_fits e).2⟩)
  have t0 : 0 ≤ T := by omega
  have t1 : T ≤ 2147483647 := by omega
  rw [← hA]
  obtain ⟨o, ho⟩ : ∃ o, o = spanGet d A (N - A) := ⟨_, rfl⟩
  rw [← ho] at HG HME HBL
  clear h ha hg hl ha0 hN hA hT ho hMA
  cases o with
  | none =>
    have HM := Lib.hid (show MA = none from by rw [HME.out])
    rw [HM.out]
    go_enter Tryd.func42, Tryd.ntmps42
    go_wp2_with fail
    refine HZ.out.mono ?_
    rintro e w1 ⟨rfl, rfl⟩
    go_wp2_with fail
    refine HG.out.mono ?_
    rintro e w1 ⟨v, rfl, ho1, hb1⟩
    have H1 := Lib.hid (show ZeroAt w1 w.heap.size ∧ Below w.heap.size w w1 from ⟨(hb1.block _ (by simp)).trans H0.out.2.2.2, H0.out.1.trans (hb1.mono H0.out.1.size)⟩)
    clear ho1 hb1
    obtain ⟨c0, c1, c2, c3, c4⟩ := five_cells H1.out.1
    have fz := five_free H1.out.1
    have f0 := fz 0
    have f1 := fz 1
    have f2 := fz 2
    have f3 := fz 3
    have f4 := fz 4
    clear fz
    go_wp2_with fail
    have hld := load_mark (five_put H1.out.1 (.int .i64 0) (.int .i64 0) (.bool false) (.int .i64 0) (.string ⟨#[]⟩))
    (try simp only [Exit.inBlock, Exit.then])
    refine bodyPost_ret (v := .tuple #[.agg #[.int .i64 0, .int .i64 0, .bool false, .int .i64 0, .string ⟨#[]⟩], .int .i64 0, .bool false]) ?_ rfl ⟨rfl, five_set H1.out.2 (Nat.le_refl _) _ _ _ _ _⟩
    rw [results_cell_two rfl]
    simp [asAddr, Result.andThen, hld]
  | some tb =>
    obtain ⟨t, b⟩ := tb
    have HG : RowKit.Hid (Calls Tryd.prog 55 #[p, .int .i64 A, .int .i64 (N - A)] (w.alloc (.cells #[.int .i64 0, .int .i64 0, .bool false, .int .i64 0, .string ⟨#[]⟩] 25)) fun e w' => ∃ v, e = .returned (.tuple #[.int .u32 (t : Int), v, .bool true]) ∧ NetMem.Own w' (w.alloc (.cells #[.int .i64 0, .int .i64 0, .bool false, .int .i64 0, .string ⟨#[]⟩] 25)).heap.size v b ∧ Below (w.alloc (.cells #[.int .i64 0, .int .i64 0, .bool false, .int .i64 0, .string ⟨#[]⟩] 25)).heap.size (w.alloc (.cells #[.int .i64 0, .int .i64 0, .bool false, .int .i64 0, .string ⟨#[]⟩] 25)) w') := Lib.hid HG.out
    have hbl := (HBL.out t b rfl)
    have HBB := Lib.hid hbl
    obtain ⟨TT, hTT⟩ : ∃ TT : Int, TT = (t : Int) := ⟨_, rfl⟩
    rw [← hTT] at HG
    have tt0 : 0 ≤ TT := by omega
    have tt1 : TT ≤ 4294967295 := by omega
    by_cases ht : TT = T
    · subst ht
      have HBB := Lib.hid (show b.length ≤ 900000 from by omega)
      have hbe : (TT != TT) = false := by simp
      obtain ⟨rv, hrv⟩ : ∃ rv, rv = readV b := ⟨_, rfl⟩
      obtain ⟨gen', n, done, st, out⟩ := rv
      cases hrb : readB b with
      | false =>
        have HM := Lib.hid (show MA = none from by rw [HME.out]; simp only; rw [if_pos (by omega)]; unfold markRead; rw [hrb]; rfl)
        have HRD := Lib.hid (show (⟨gen', n, done, st, out⟩ : Mk) = readV b ∧ readB b = false from ⟨hrv, hrb⟩)
        rw [HM.out]
        clear hbl hTT hrv
        go_enter Tryd.func42, Tryd.ntmps42
        go_wp2_with fail
        refine HZ.out.mono ?_
        rintro e w1 ⟨rfl, rfl⟩
        go_wp2_with fail
        refine HG.out.mono ?_
        rintro e w1 ⟨v, rfl, ho1, hb1⟩
        obtain ⟨q, c, hv, -⟩ := id ho1.row
        subst hv
        have hb01 := H0.out.1.trans (hb1.mono H0.out.1.size)
        have H1 := Lib.hid (show ZeroAt w1 w.heap.size ∧ Below w.heap.size w w1 ∧ Row w1 (.slice q b.length c) b ∧ NetP.Glob w1 from ⟨(hb1.block _ (by simp)).trans H0.out.2.2.2, hb01, ho1.row, H0.out.2.1.below hb01⟩)
        clear ho1 hb1 hb01
        go_wp2_with fail
        refine (HT.out _).mono ?_
        rintro e w2 ⟨rfl, rfl⟩
        go_wp2_with fail
        refine (read_any q c b HBB.out w1 H1.out.2.2.1 H1.out.2.2.2).mono ?_
        rintro e w2 ⟨rfl, hb2⟩
        rw [← HRD.out.1]
        try simp only [Mk.v]
        have H2 := Lib.hid (show ZeroAt w2 w.heap.size ∧ Below w.heap.size w w2 from ⟨(hb2.block _ (Array.getElem?_eq_some_iff.1 H1.out.1).1).trans H1.out.1, H1.out.2.1.trans (hb2.mono H1.out.2.1.size)⟩)
        clear hb2
        obtain ⟨c0, c1, c2, c3, c4⟩ := five_cells H2.out.1
        have fz := five_free H2.out.1
        have f0 := fz 0
        have f1 := fz 1
        have f2 := fz 2
        have f3 := fz 3
        have f4 := fz 4
        clear fz
        rw [hrb]
        clear hrb
        go_wp2_with fail
        have hld := load_mark (five_put (five_put H2.out.1 (.int .i64 gen') (.int .i64 n) (.bool done) (.int .i64 st) (.string out)) (.int .i64 0) (.int .i64 0) (.bool false) (.int .i64 0) (.string ⟨#[]⟩))
        (try simp only [Exit.inBlock, Exit.then])
        refine bodyPost_ret (v := .tuple #[.agg #[.int .i64 0, .int .i64 0, .bool false, .int .i64 0, .string ⟨#[]⟩], .int .i64 0, .bool false]) ?_ rfl ⟨rfl, five_set (five_set H2.out.2 (Nat.le_refl _) _ _ _ _ _) (Nat.le_refl _) _ _ _ _ _⟩
        rw [results_cell_two rfl]
        simp [asAddr, Result.andThen, hld]
      | true =>
        obtain ⟨KK, hKK⟩ : ∃ KK : Int, KK = ((need b.length : Nat) : Int) := ⟨_, rfl⟩
        have HNE := Lib.hid (fun W => need_any b.length W (by omega))
        rw [← hKK] at HNE
        have HM := Lib.hid (show MA = some (⟨gen, n, done, st, out⟩, need b.length) from by
          rw [HME.out]
          simp only
          rw [if_pos (by omega)]
          unfold markRead
          rw [hrb, if_pos rfl, Option.map_some, show readM b = ⟨gen', n, done, st, out⟩ by rw [hrv]; unfold readV; rw [if_pos hrb]]
          rfl)
        have HRD := Lib.hid (show (⟨gen', n, done, st, out⟩ : Mk) = readV b ∧ ((need b.length : Nat) : Int) = KK from ⟨hrv, hKK.symm⟩)
        rw [HM.out]
        clear hbl hTT hrv hKK
        go_enter Tryd.func42, Tryd.ntmps42
        go_wp2_with fail
        refine HZ.out.mono ?_
        rintro e w1 ⟨rfl, rfl⟩
        go_wp2_with fail
        refine HG.out.mono ?_
        rintro e w1 ⟨v, rfl, ho1, hb1⟩
        obtain ⟨q, c, hv, -⟩ := id ho1.row
        subst hv
        have hb01 := H0.out.1.trans (hb1.mono H0.out.1.size)
        have H1 := Lib.hid (show ZeroAt w1 w.heap.size ∧ Below w.heap.size w w1 ∧ Row w1 (.slice q b.length c) b ∧ NetP.Glob w1 from ⟨(hb1.block _ (by simp)).trans H0.out.2.2.2, hb01, ho1.row, H0.out.2.1.below hb01⟩)
        clear ho1 hb1 hb01
        go_wp2_with fail
        refine (HT.out _).mono ?_
        rintro e w2 ⟨rfl, rfl⟩
        go_wp2_with fail
        refine (read_any q c b HBB.out w1 H1.out.2.2.1 H1.out.2.2.2).mono ?_
        rintro e w2 ⟨rfl, hb2⟩
        rw [← HRD.out.1]
        try simp only [Mk.v]
        have H2 := Lib.hid (show ZeroAt w2 w.heap.size ∧ Below w.heap.size w w2 from ⟨(hb2.block _ (Array.getElem?_eq_some_iff.1 H1.out.1).1).trans H1.out.1, H1.out.2.1.trans (hb2.mono H1.out.2.1.size)⟩)
        clear hb2
        obtain ⟨c0, c1, c2, c3, c4⟩ := five_cells H2.out.1
        have fz := five_free H2.out.1
        have f0 := fz 0
        have f1 := fz 1
        have f2 := fz 2
        have f3 := fz 3
        have f4 := fz 4
        clear fz
        rw [hrb]
        clear hrb
        go_wp2_with fail
        go_region_with (go_at_call 37; refine (HNE.out _).mono ?_; rintro e w3 ⟨rfl, rfl⟩)
        all_goals
          go_wp2_with fail
          have hld := six_put H2.out.1 (.int .i64 gen') (.int .i64 n) (.bool done) (.int .i64 st) (.string out) (.int .i64 gen)
          have hbl := six_set H2.out.2 (Nat.le_refl _) (.int .i64 gen') (.int .i64 n) (.bool done) (.int .i64 st) (.string out) (.int .i64 gen)
          have HFIN := Lib.hid (And.intro hld hbl)
          clear hld hbl
          generalize ((((((((((w2.setCell ⟨w.heap.size, 0, none⟩ (.int .i64 gen')).setCell ⟨w.heap.size, 1, none⟩ (.int .i64 n)).setCell ⟨w.heap.size, 2, none⟩ (.bool done)).setCell ⟨w.heap.size, 3, none⟩ (.int .i64 st)).setCell ⟨w.heap.size, 4, none⟩ (.string out)).setCell ⟨w.heap.size, 0, none⟩ (.int .i64 gen)).setCell ⟨w.heap.size, 0, none⟩ (.int .i64 gen)).setCell ⟨w.heap.size, 1, none⟩ (.int .i64 n)).setCell ⟨w.heap.size, 2, none⟩ (.bool done)).setCell ⟨w.heap.size, 3, none⟩ (.int .i64 st)).setCell ⟨w.heap.size, 4, none⟩ (.string out) = W9 at HFIN ⊢
          (try simp only [Exit.inBlock, Exit.then])
          refine bodyPost_ret (v := .tuple #[.agg #[.int .i64 gen, .int .i64 n, .bool done, .int .i64 st, .string out], .int .i64 KK, .bool true]) (ret_two rfl (load_mark (w := W9.drew) HFIN.out.1) rfl rfl rfl) rfl ⟨by rw [← HRD.out.2]; rfl, HFIN.out.2.drew⟩
    · have HM := Lib.hid (show MA = none from by rw [HME.out]; simp only; rw [if_neg (by omega)])
      rw [HM.out]
      have hb : (TT != T) = true := by simpa using ht
      clear hbl hTT ht
      go_enter Tryd.func42, Tryd.ntmps42
      go_wp2_with fail
      refine HZ.out.mono ?_
      rintro e w1 ⟨rfl, rfl⟩
      go_wp2_with fail
      refine HG.out.mono ?_
      rintro e w1 ⟨v, rfl, ho1, hb1⟩
      have H1 := Lib.hid (show ZeroAt w1 w.heap.size ∧ Below w.heap.size w w1 from ⟨(hb1.block _ (by simp)).trans H0.out.2.2.2, H0.out.1.trans (hb1.mono H0.out.1.size)⟩)
      clear ho1 hb1
      go_wp2_with fail
      refine (HT.out _).mono ?_
      rintro e w2 ⟨rfl, rfl⟩
      obtain ⟨c0, c1, c2, c3, c4⟩ := five_cells H1.out.1
      have fz := five_free H1.out.1
      have f0 := fz 0
      have f1 := fz 1
      have f2 := fz 2
      have f3 := fz 3
      have f4 := fz 4
      clear fz
      go_wp2_with fail
      have hld := load_mark (five_put H1.out.1 (.int .i64 0) (.int .i64 0) (.bool false) (.int .i64 0) (.string ⟨#[]⟩))
      (try simp only [Exit.inBlock, Exit.then])
      refine bodyPost_ret (v := .tuple #[.agg #[.int .i64 0, .int .i64 0, .bool false, .int .i64 0, .string ⟨#[]⟩], .int .i64 0, .bool false]) ?_ rfl ⟨rfl, five_set H1.out.2 (Nat.le_refl _) _ _ _ _ _⟩
      rw [results_cell_two rfl]
      simp [asAddr, Result.andThen, hld]
end Go.Proofs.YtilplpjdbkipoaaDoor
