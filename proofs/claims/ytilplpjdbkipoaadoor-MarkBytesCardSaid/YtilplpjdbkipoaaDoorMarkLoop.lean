/-
  Proved: mark's Scan answers the marks that its model finds, in new memory. Conditions: the disk lies in memory; the library's table and its two sentinel errors read as laid.
-/
import Derived.Test.YtilplpjdbkipoaaDoorMarkScan
import Derived.Deep.AppendLies
import Derived.LoopTactic
namespace Go.Proofs.YtilplpjdbkipoaaDoor
open Go Go.RowKit DiskMath NetMath NetMem SpanMath SumMath MarkMath

/-- A row of marks, cell by cell. -/
def mcells (l : List Mk) : List Value := l.flatMap Mk.cells
theorem mcells_snoc (l : List Mk) (m : Mk) : mcells (l ++ [m]) = mcells l ++ m.cells := by simp [mcells]
theorem mcells_len : ∀ l : List Mk, (mcells l).length = l.length * 5
  | [] => rfl
  | m :: l => by
    have := mcells_len l
    simp only [mcells, List.flatMap_cons, List.length_append, List.length_cons] at this ⊢
    rw [this]
    show 5 + l.length * 5 = _
    omega
/-- A row of marks that the call owns. -/
def OwnM (w : World) (B : Nat) (v : Value) (l : List Mk) : Prop := w.ownsRow B 25 5 v l.length (mcells l)
theorem OwnM.below {w w' : World} {B : Nat} {v : Value} {l : List Mk} (h : OwnM w B v l) (hb : Below w.heap.size w w') : OwnM w' B v l :=
  ownsRow_block h fun k hk => hb.block k (h.lt k hk).2
theorem OwnM.nil (w : World) (B : Nat) : OwnM w B (.slice none 0 0) [] := World.ownsRow_nil _ _ _ _
theorem info_mark : (Tryd.prog.info? 25).map (fun i => (i.zero, i.size, i.bytes)) = some (some (.agg #[.int .i64 0, .int .i64 0, .bool false, .int .i64 0, .string ⟨#[]⟩]), 5, 48) := by kernel_rfl
theorem mark_one (m : Mk) : ∀ u ∈ m.cells, u.oneCell' = true := by
  intro u hu
  simp only [Mk.cells, List.mem_cons, List.not_mem_nil, or_false] at hu
  rcases hu with rfl | rfl | rfl | rfl | rfl <;> rfl
def RelS (d : Dk) (gen : Int) (w : World) (v a : Value) (wr : World) : Prop :=
  ∃ (pre : List Mk) (k f : Nat), a = .int .i64 (k : Int) ∧ k ≤ d.s.length ∧ d.s.length + 1 ≤ f + k ∧ pre.length ≤ k ∧
    scanFrom d gen (d.s.length + 1) (2 * room d) = (pre ++ (scanFrom d gen f k).1, (scanFrom d gen f k).2) ∧ OwnM wr w.heap.size v pre ∧ Below w.heap.size w wr

set_option maxHeartbeats 4000000 in
set_option maxRecDepth 100000 in
theorem scan_at {w : World} {D : Nat → Prop} {p : Value} {d : Dk} (h : DiskAt w D p d) (gen : Int) (hg : NetP.Glob w) :
    Calls Tryd.prog 19 #[p, .int .i64 gen] w fun e w' => ∃ v, e = .returned (.tuple #[v, .int .i64 ((markScan d gen).2 : Int)]) ∧ OwnM w' w.heap.size v (markScan d gen).1 ∧ Below w.heap.size w w' := by
  have hl : d.s.length ≤ 4000 := by obtain ⟨g, s, pv, lv, rfl, hm, -, -⟩ := h; exact hm.secs.2.2.2.1
  have HF := Lib.hid (first_at h)
  have HI := Lib.hid (fun W => isGen_any gen W)
  have hr : 2 * room d ≤ d.s.length := by unfold room; omega
  rw [show jFrom d = ((2 * room d : Nat) : Int) by unfold jFrom; omega] at HF
  cases hgb : isGenB gen with
  | false =>
    rw [hgb] at HI
    have HM := Lib.hid (show markScan d gen = ([], 2 * room d) from by unfold markScan; rw [hgb]; rfl)
    rw [HM.out]
    clear h hl hr hg hgb
    go_enter Tryd.func19, Tryd.ntmps19
    go_wp2_with fail
    refine HF.out.mono ?_
    rintro e w1 ⟨rfl, rfl⟩
    go_wp2_with fail
    refine (HI.out _).mono ?_
    rintro e w1 ⟨rfl, rfl⟩
    go_wp2_with fail
    go_ret2
    exact ⟨_, rfl, OwnM.nil _ _, Below.refl _ _⟩
  | true =>
    rw [hgb] at HI
    have HM := Lib.hid (show markScan d gen = scanFrom d gen (d.s.length + 1) (2 * room d) from by unfold markScan; rw [hgb]; rfl)
    rw [HM.out]
    have hg2 : 0 ≤ gen ∧ gen ≤ 2147483646 := by simpa [isGenB] using hgb
    obtain ⟨i0, hi, hz0, hz1, hz2⟩ := info_parts info_mark
    have HZ := Lib.hid (And.intro hi (And.intro hz0 (And.intro hz1 hz2)))
    have HX := Lib.hid (And.intro h (And.intro hg (And.intro hg2 (And.intro hl hr))))
    clear h hl hr hg hgb hg2 hi hz0 hz1 hz2
    go_enter Tryd.func19, Tryd.ntmps19
    go_wp2_with fail
    refine HF.out.mono ?_
    rintro e w1 ⟨rfl, rfl⟩
    go_wp2_with fail
    refine (HI.out _).mono ?_
    rintro e w1 ⟨rfl, rfl⟩
    go_wp2_with fail
    go_loopw [4, 5] (fun v a wr => RelS d gen w v a wr) (fun _ a _ => d.s.length + 1 - (intOf a).toNat)
    case atStart => exact ⟨[], 2 * room d, d.s.length + 1, rfl, HX.out.2.2.2.2, by omega, by simp, by simp, OwnM.nil _ _, Below.refl _ _⟩
    case round =>
      obtain ⟨pre, k, f, rfl, hk, hf, hpl, hsc, hown, hb⟩ := hrel
      have HC := Lib.hid (markAt_at (HX.out.1.below hb) k hk gen HX.out.2.2.1.1 HX.out.2.2.1.2 (HX.out.2.1.below hb))
      obtain ⟨o, ho⟩ : ∃ o, o = markAt d k gen := ⟨_, rfl⟩
      rw [← ho] at HC
      have HR := Lib.hid (And.intro hk (And.intro hf (And.intro hpl (And.intro hsc (And.intro hown (And.intro hb ho))))))
      clear hk hf hpl hsc hown hb ho
      cases o with
      | none =>
        have HC : RowKit.Hid (Calls Tryd.prog 42 #[p, .int .i64 (k : Int), .int .i64 gen] wr fun e w' => e = .returned (.tuple #[.agg #[.int .i64 0, .int .i64 0, .bool false, .int .i64 0, .string ⟨#[]⟩], .int .i64 0, .bool false]) ∧ Below wr.heap.size wr w') := Lib.hid HC.out
        go_wp2_with fail
        refine HC.out.mono ?_
        rintro e w2 ⟨rfl, hb2⟩
        have H2 := Lib.hid (And.intro (HR.out.2.2.2.2.1.below hb2) (HR.out.2.2.2.2.2.1.trans (hb2.mono HR.out.2.2.2.2.2.1.size)))
        clear hb2
        go_wp2_with fail
        go_ret2
        have hS : scanFrom d gen (d.s.length + 1) (2 * room d) = (pre, k) := by
          rw [HR.out.2.2.2.1, scan_stop HR.out.2.2.2.2.2.2.symm, List.append_nil]
        rw [hS]
        have ha2 : Below w2.heap.size w2 (w2.alloc (.cells #[.int .i64 0, .int .i64 0, .bool false, .int .i64 0, .string ⟨#[]⟩] 25)) := (Below.refl _ _).alloc (Nat.le_refl _) _
        exact ⟨_, rfl, H2.out.1.below ha2, H2.out.2.trans (ha2.mono H2.out.2.size)⟩
      | some mk =>
        obtain ⟨⟨g', n, done, st, out⟩, kk⟩ := mk
        have hfit := markAt_fits HR.out.2.2.2.2.2.2.symm
        obtain ⟨f', hf'⟩ : ∃ f', f = f' + 1 := ⟨f - 1, by have := HR.out.1; have := HR.out.2.1; omega⟩
        have HS := Lib.hid (show scanFrom d gen (d.s.length + 1) (2 * room d) = ((pre ++ [⟨g', n, done, st, out⟩]) ++ (scanFrom d gen f' (k + kk)).1, (scanFrom d gen f' (k + kk)).2) from by
          rw [HR.out.2.2.2.1, hf']
          simp only [scanFrom]
          rw [← HR.out.2.2.2.2.2.2]
          simp)
        have HC : RowKit.Hid (Calls Tryd.prog 42 #[p, .int .i64 (k : Int), .int .i64 gen] wr fun e w' => e = .returned (.tuple #[.agg #[.int .i64 g', .int .i64 n, .bool done, .int .i64 st, .string out], .int .i64 (kk : Int), .bool true]) ∧ Below wr.heap.size wr w') := Lib.hid HC.out
        have hk0 : (k : Int) ≤ 4000 := by have := HX.out.2.2.2.1; omega
        have hk1 : (kk : Int) ≤ 4000 := by have := HX.out.2.2.2.1; omega
        have HFIT := Lib.hid (And.intro hfit hf')
        clear hfit hf'
        go_wp2_with fail
        refine HC.out.mono ?_
        rintro e w2 ⟨rfl, hb2⟩
        have H2 := Lib.hid (And.intro (HR.out.2.2.2.2.1.below hb2) (HR.out.2.2.2.2.2.1.trans (hb2.mono HR.out.2.2.2.2.2.1.size)))
        clear hb2
        obtain ⟨O1, hO1⟩ : ∃ O1, O1 = Obj.cells #[.int .i64 g', .int .i64 n, .bool done, .int .i64 st, .string out] 25 := ⟨_, rfl⟩
        have ha2 : Below w2.heap.size w2 ((w2.alloc O1).alloc O1) := ((Below.refl _ _).alloc (Nat.le_refl _) _).alloc (by simp) _
        have hown2 : OwnM ((w2.alloc O1).alloc O1) w.heap.size u4 pre := H2.out.1.below ha2
        have hb02 : Below w.heap.size w ((w2.alloc O1).alloc O1) := H2.out.2.trans (ha2.mono H2.out.2.size)
        have hnews := World.news_of_block (w := (w2.alloc O1).alloc O1) (B := w2.heap.size + 1) (cs := #[.int .i64 g', .int .i64 n, .bool done, .int .i64 st, .string out]) (t := 25) (fr := (0, 0)) (by
          have := heap_alloc_new (w2.alloc O1) O1
          rw [← hO1]
          simpa using this)
        rw [hO1] at ha2 hown2 hb02 hnews
        have hlen0 := mcells_len pre
        go_wp2_with (at_builtin; refine wpList_append_lies _ rfl _ _ 39 rfl w.heap.size 25 i0 (.agg #[.int .i64 0, .int .i64 0, .bool false, .int .i64 0, .string ⟨#[]⟩]) 5 48 Tryd.underlying39 HZ.out.1 HZ.out.2.1 HZ.out.2.2.1 HZ.out.2.2.2 rfl (by decide) u4 pre.length (mcells pre) rfl hown2 ⟨w2.heap.size + 1, 0, none⟩ 1 1 (Mk.cells ⟨g', n, done, st, out⟩) rfl rfl hnews (mark_one _) (by decide) ?h63 ?hby ?hbase (w2.heap.size + 2) (by simp) ?_)
        case h63 => have := HR.out.2.2.1; have := HR.out.1; have := HX.out.2.2.2.1; unfold maxLen; omega
        case hby => have := HR.out.2.2.1; have := HR.out.1; have := HX.out.2.2.2.1; omega
        case hbase => exact hb02.size
        intro g cap w3 ho3 hg3 hat3 hlt3
        have hb3 := hb02.grown hg3 hb02.size (fun k hk => (hown2.lt k hk).1)
        have H3 := Lib.hid (show OwnM w3 w.heap.size (.slice (some ⟨g, 0, none⟩) (pre.length + 1) cap) (pre ++ [⟨g', n, done, st, out⟩]) ∧ Below w.heap.size w w3 from by
          refine ⟨?_, hb3⟩
          unfold OwnM
          rw [mcells_snoc, List.length_append]
          exact ho3)
        clear ho3 hg3 hat3 hlt3 hb3 ha2 hown2 hb02 hnews hlen0 hO1
        go_wp2_with fail
        refine ⟨⟨pre ++ [⟨g', n, done, st, out⟩], k + kk, f', by go_num, HFIT.out.1.1, by have := HFIT.out; have := HR.out.2.1; omega, by have := HFIT.out; have := HR.out.2.2.1; simp; omega, HS.out, H3.out.1, H3.out.2⟩, by have := HFIT.out; simp [intOf]; omega⟩
end Go.Proofs.YtilplpjdbkipoaaDoor
