/-
  Proved: the law MarkReads answers true. Conditions: the library's table and its two sentinel errors read as laid.
-/
import Derived.Test.YtilplpjdbkipoaaDoorMarkRefR
import Derived.Test.YtilplpjdbkipoaaDoorMarkKnown
namespace Go.Proofs.YtilplpjdbkipoaaDoor
open Go Go.RowKit NetMath NetMem MarkMath SpanMath

set_option maxHeartbeats 4000000 in
set_option maxRecDepth 100000 in
theorem mreads_in (p : Option Addr) (c : Nat) (l : List UInt8) (hl : l.length ≤ 200) (w : World) (h : Row w (.slice p l.length c) l) (hg : NetP.Glob w) :
    Calls Tryd.prog 4 #[.slice p l.length c] w fun e w' => e = .returned (.bool true) ∧ Below w.heap.size w w' := by
  obtain ⟨m, hm⟩ : ∃ m, m = readV l := ⟨_, rfl⟩
  obtain ⟨gen, n, done, st, out⟩ := m
  obtain ⟨b, hb⟩ : ∃ b, b = readB l := ⟨_, rfl⟩
  have hk := fun W (hW : Below w.heap.size w W) => read_any p c l (by omega) W (h.below hW) (hg.below hW)
  have hr := fun W (hW : Below w.heap.size w W) => rread_any p c l (by omega) W (h.below hW)
  rw [← hm, ← hb] at hk hr
  simp only [Mk.v] at hk hr
  have HK := Lib.hid hk
  have HR := Lib.hid hr
  have HG := Lib.hid hg
  have hl0 : (l.length : Int) ≤ 200 := by omega
  clear hk hr hm hb h hl hg
  go_enter Tryd.func4, Tryd.ntmps4
  go_wp2_with fail
  refine (HK.out w (Below.refl _ _)).mono ?_
  rintro e w1 ⟨rfl, hb1⟩
  have ha1 := hb1.alloc hb1.size (.cells #[.int .i64 gen, .int .i64 n, .bool done, .int .i64 st, .string out] 25)
  have H1 := Lib.hid (And.intro ha1 (heap_alloc_new w1 (.cells #[.int .i64 gen, .int .i64 n, .bool done, .int .i64 st, .string out] 25)))
  clear hb1 ha1
  go_wp2_with fail
  refine (HR.out _ H1.out.1).mono ?_
  rintro e w2 ⟨rfl, hb2⟩
  have hx := (hb2.block _ (by simp)).trans H1.out.2
  have hb02 := H1.out.1.trans (hb2.mono H1.out.1.size)
  have hb03 := hb02.alloc hb02.size (.cells #[.int .i64 gen, .int .i64 n, .bool done, .int .i64 st, .string out] 25)
  obtain ⟨c0, c1, c2, c3, c4⟩ := five_cells hx
  have hlt : w1.heap.size < w2.heap.size := (Array.getElem?_eq_some_iff.1 hx).1
  have hx3 : (w2.alloc (.cells #[.int .i64 gen, .int .i64 n, .bool done, .int .i64 st, .string out] 25)).heap[w1.heap.size]? = some (.cells #[.int .i64 gen, .int .i64 n, .bool done, .int .i64 st, .string out] 25) := (Below.heap_alloc w2 _ _ hlt).trans hx
  obtain ⟨d0, d1, d2, d3, d4⟩ := five_cells hx3
  obtain ⟨e0, e1, e2, e3, e4⟩ := five_cells (heap_alloc_new w2 (.cells #[.int .i64 gen, .int .i64 n, .bool done, .int .i64 st, .string out] 25))
  have H3 := Lib.hid hb03
  clear hb2 hx hb02 hb03 hx3
  go_wp2_with fail
  refine (known_any _ (HG.out.below H3.out)).mono ?_
  rintro e w4 ⟨rfl, hb4⟩
  have H4 := Lib.hid (H3.out.trans (hb4.mono H3.out.size))
  clear hb4
  go_wp2_with fail
  go_ret
  exact ⟨rfl, H4.out⟩

set_option maxHeartbeats 2000000 in
set_option maxRecDepth 100000 in
/-- THE LAW's WALK. -/
theorem mreads_law (p : Option Addr) (c : Nat) (l : List UInt8) (w : World) (h : Row w (.slice p l.length c) l) (hg : NetP.Glob w) :
    Calls Tryd.prog 4 #[.slice p l.length c] w fun e w' => e = .returned (.bool true) ∧ Below w.heap.size w w' := by
  by_cases hl : (200 : Int) < (l.length : Int)
  · have HB := Lib.hid (Below.refl w.heap.size w)
    clear h hg
    go_enter Tryd.func4, Tryd.ntmps4
    go_wp2_with fail
    go_ret
    exact ⟨rfl, HB.out⟩
  · exact mreads_in p c l (by omega) w h hg
end Go.Proofs.YtilplpjdbkipoaaDoor
