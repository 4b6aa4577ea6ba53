/-
  Proved: the law MarkBytes answers true. Conditions: the library's table and its two sentinel errors read as laid.
-/
import Derived.Test.YtilplpjdbkipoaaDoorMarkRef
import Derived.Test.YtilplpjdbkipoaaDoorMarkTools
namespace Go.Proofs.YtilplpjdbkipoaaDoor
open Go Go.RowKit NetMath NetMem MarkMath SpanMath

/-- What is read of a mark's bytes: it, with generation 0, or none. -/
theorem read_bytes (m : Mk) (hs : I64 m.st) (ho : m.out.size ≤ 900000) : readB m.bytes = m.is ∧ readV m.bytes = if m.is then m.of 0 else Mk.none := by
  cases hm : m.is with
  | true =>
    have h := read_raw m hm hs (by omega)
    have hb : m.bytes = m.raw := by unfold Mk.bytes; rw [hm]; rfl
    unfold markRead at h
    rw [hb]
    cases hr : readB m.raw with
    | true =>
      rw [hr, if_pos rfl] at h
      exact ⟨rfl, by unfold readV; rw [hr, if_pos rfl, if_pos rfl]; exact Option.some.inj h⟩
    | false => rw [hr] at h; cases h
  | false =>
    have hb : m.bytes = [] := by unfold Mk.bytes; rw [hm]; rfl
    have hr : readB [] = false := by unfold readB; rw [readOk_nil]; rfl
    rw [hb, hr]
    exact ⟨rfl, by unfold readV; rw [hr]; rfl⟩

set_option maxHeartbeats 8000000 in
set_option maxRecDepth 100000 in
theorem mbytes_in (gen n : Int) (done : Bool) (st : Int) (out : ByteArray) (hs : I64 st) (ho : out.size ≤ 300) (w : World) (hg : NetP.Glob w) :
    Calls Tryd.prog 3 #[.agg #[.int .i64 gen, .int .i64 n, .bool done, .int .i64 st, .string out]] w fun e w' => e = .returned (.bool true) ∧ Below w.heap.size w w' := by
  obtain ⟨m, hm⟩ : ∃ m : Mk, m = ⟨gen, n, done, st, out⟩ := ⟨_, rfl⟩
  obtain ⟨L, hL⟩ : ∃ L, L = m.bytes := ⟨_, rfl⟩
  obtain ⟨is, his⟩ : ∃ is, is = m.is := ⟨_, rfl⟩
  have hst : m.st = st := by rw [hm]
  have hou : m.out = out := by rw [hm]
  have hlen : L.length ≤ 900000 := by
    rw [hL]
    unfold Mk.bytes
    cases e : m.is with
    | true =>
      have := is_gen e
      have := (raw_len m ⟨by omega, by omega⟩ (by rw [hst]; exact hs) (by rw [hou]; omega)).2
      rw [hou] at this
      rw [if_pos rfl]
      omega
    | false => simp
  have hrd := read_bytes m (by rw [hst]; exact hs) (by rw [hou]; omega)
  rw [← hL, ← his] at hrd
  have HB := Lib.hid (fun W hW => bytes_q m (by rw [hst]; exact hs) (by rw [hou]; omega) W hW)
  have HRB := Lib.hid (fun W => rbytes_q m (by rw [hst]; exact hs) (by rw [hou]; omega) W)
  have HI := Lib.hid (fun W => ris_any m W)
  rw [← hL] at HB HRB
  rw [← his] at HI
  have HR := Lib.hid (fun q c W h hW => read_any q c L hlen W h hW)
  rw [hrd.1, hrd.2] at HR
  rw [hm] at HB HRB HI HR
  simp only [Mk.v] at HB HRB HI
  obtain ⟨s, hsL⟩ : ∃ s : ByteArray, (⟨L.toArray⟩ : ByteArray) = s := ⟨_, rfl⟩
  have HS := Lib.hid (And.intro hsL hg)
  have ho1 : (out.size : Int) ≤ 300 := by omega
  have hbox : Below w.heap.size w (w.alloc (.cells #[.int .i64 gen, .int .i64 n, .bool done, .int .i64 st, .string out] 25)) := (Below.refl _ _).alloc (Nat.le_refl _) _
  have H0 := Lib.hid (And.intro hbox (heap_alloc_new w (.cells #[.int .i64 gen, .int .i64 n, .bool done, .int .i64 st, .string out] 25)))
  clear hs ho hm hL his hst hou hlen hrd hsL hbox hg m
  go_enter Tryd.func3, Tryd.ntmps3
  go_wp2_with fail
  refine (HB.out _ (HS.out.2.below H0.out.1)).mono ?_
  rintro e w1 ⟨p1, c1, rfl, ho1', hb1⟩
  have H1 := Lib.hid (show VarS w w.heap.size ⟨gen, n, done, st, out⟩ (.slice p1 L.length c1) L w1 from ⟨(hb1.block _ (by simp)).trans H0.out.2, ho1'.row, H0.out.1.trans (hb1.mono H0.out.1.size)⟩)
  clear ho1' hb1
  go_wp2_with fail
  refine (HR.out p1 c1 w1 H1.out.2.1 (HS.out.2.below H1.out.2.2)).mono ?_
  rintro e w2 ⟨rfl, hb2⟩
  cases is with
  | true =>
    simp only [↓reduceIte, Mk.of, Mk.v]
    have H2 := Lib.hid (H1.out.below hb2)
    clear hb2
    have ha2 : Below w2.heap.size w2 (w2.alloc (.cells #[.int .i64 0, .int .i64 n, .bool done, .int .i64 st, .string out] 25)) := (Below.refl _ _).alloc (Nat.le_refl _) _
    have H3 := Lib.hid (H2.out.below ha2)
    have hx3 := heap_alloc_new w2 (.cells #[.int .i64 0, .int .i64 n, .bool done, .int .i64 st, .string out] 25)
    have hdr := below_drew (w2.alloc (.cells #[.int .i64 0, .int .i64 n, .bool done, .int .i64 st, .string out] 25)).heap.size (w2.alloc (.cells #[.int .i64 0, .int .i64 n, .bool done, .int .i64 st, .string out] 25))
    have H4 := Lib.hid (H3.out.below hdr)
    have HX4 := Lib.hid (show (w2.alloc (.cells #[.int .i64 0, .int .i64 n, .bool done, .int .i64 st, .string out] 25)).drew.heap[w2.heap.size]? = some (.cells #[.int .i64 0, .int .i64 n, .bool done, .int .i64 st, .string out] 25) from hx3)
    have HSS := Lib.hid (H4.out.held HS.out.1)
    have hbt : (s.toList != s.toList) = false := by simp
    clear ha2 hx3 hdr
    go_wp2_with fail
    go_region_held (fun W => (W.cell? ⟨w.heap.size, 0, none⟩ = some (.int .i64 gen) ∧ W.cell? ⟨w.heap.size, 1, none⟩ = some (.int .i64 n) ∧ W.cell? ⟨w.heap.size, 2, none⟩ = some (.bool done) ∧ W.cell? ⟨w.heap.size, 3, none⟩ = some (.int .i64 st) ∧ W.cell? ⟨w.heap.size, 4, none⟩ = some (.string out)) ∧ (convert 26 9 (.slice p1 L.length c1)).run Tryd.prog W = .ok (.string s) W) (first | assumption | exact HSS.out)
      (first
        | (go_at_call 10; (with_reducible refine (HRB.out _).mono ?_); rintro e w5 ⟨p5, c5, rfl, ho5, hb5⟩; have hs5 := (H4.out.below hb5).held HS.out.1; have hcv5 := conv_any ho5.row; rw [HS.out.1] at hcv5; have H5 := Lib.hid (And.intro (H4.out.below hb5) ((hb5.block _ (Array.getElem?_eq_some_iff.1 HX4.out).1).trans HX4.out)); clear hb5 ho5)
        | (go_at_call 11; (with_reducible refine (HI.out _).mono ?_); rintro e w6 ⟨rfl, hb6⟩; have hs6 := (H5.out.1.below hb6).held HS.out.1; have H6 := Lib.hid (And.intro (H5.out.1.below hb6) ((hb6.block _ (Array.getElem?_eq_some_iff.1 H5.out.2).1).trans H5.out.2)); clear hb6))
    obtain ⟨c0, c1', c2, c3, c4⟩ := five_cells H6.out.1.1
    have fz := five_free H6.out.1.1
    have f0 := fz 0
    obtain ⟨d0, d1, d2, d3, d4⟩ := five_cells H6.out.2
    have hlt : w2.heap.size ≠ w.heap.size := fun e => by
      have h1 := H2.out.1
      have := (Array.getElem?_eq_some_iff.1 h1).1
      omega
    clear fz hs6 hbt
    go_wp2_with fail
    have HE := Lib.hid (H6.out.1.2.2.setCell (p := ⟨w.heap.size, 0, none⟩) (Nat.le_refl _) (.int .i64 0))
    refine (known_any _ (HS.out.2.below HE.out)).mono ?_
    rintro e w7 ⟨rfl, hb7⟩
    have HE7 := Lib.hid (HE.out.trans (hb7.mono HE.out.size))
    clear hb7
    go_wp2_with fail
    go_ret
    exact ⟨rfl, HE7.out⟩
  | false =>
    simp only [Bool.false_eq_true, ↓reduceIte, Mk.none, noB, Mk.v]
    have H2 := Lib.hid (H1.out.below hb2)
    clear hb2
    have ha2 : Below w2.heap.size w2 (w2.alloc (.cells #[.int .i64 0, .int .i64 0, .bool false, .int .i64 0, .string ⟨#[]⟩] 25)) := (Below.refl _ _).alloc (Nat.le_refl _) _
    have H3 := Lib.hid (H2.out.below ha2)
    have hx3 := heap_alloc_new w2 (.cells #[.int .i64 0, .int .i64 0, .bool false, .int .i64 0, .string ⟨#[]⟩] 25)
    have hdr := below_drew (w2.alloc (.cells #[.int .i64 0, .int .i64 0, .bool false, .int .i64 0, .string ⟨#[]⟩] 25)).heap.size (w2.alloc (.cells #[.int .i64 0, .int .i64 0, .bool false, .int .i64 0, .string ⟨#[]⟩] 25))
    have H4 := Lib.hid (H3.out.below hdr)
    have HX4 := Lib.hid (show (w2.alloc (.cells #[.int .i64 0, .int .i64 0, .bool false, .int .i64 0, .string ⟨#[]⟩] 25)).drew.heap[w2.heap.size]? = some (.cells #[.int .i64 0, .int .i64 0, .bool false, .int .i64 0, .string ⟨#[]⟩] 25) from hx3)
    have HSS := Lib.hid (H4.out.held HS.out.1)
    have hbt : (s.toList != s.toList) = false := by simp
    clear ha2 hx3 hdr
    go_wp2_with fail
    go_region_held (fun W => (W.cell? ⟨w.heap.size, 0, none⟩ = some (.int .i64 gen) ∧ W.cell? ⟨w.heap.size, 1, none⟩ = some (.int .i64 n) ∧ W.cell? ⟨w.heap.size, 2, none⟩ = some (.bool done) ∧ W.cell? ⟨w.heap.size, 3, none⟩ = some (.int .i64 st) ∧ W.cell? ⟨w.heap.size, 4, none⟩ = some (.string out)) ∧ (convert 26 9 (.slice p1 L.length c1)).run Tryd.prog W = .ok (.string s) W) (first | assumption | exact HSS.out)
      (first
        | (go_at_call 10; (with_reducible refine (HRB.out _).mono ?_); rintro e w5 ⟨p5, c5, rfl, ho5, hb5⟩; have hs5 := (H4.out.below hb5).held HS.out.1; have hcv5 := conv_any ho5.row; rw [HS.out.1] at hcv5; have H5 := Lib.hid (And.intro (H4.out.below hb5) ((hb5.block _ (Array.getElem?_eq_some_iff.1 HX4.out).1).trans HX4.out)); clear hb5 ho5)
        | (go_at_call 11; (with_reducible refine (HI.out _).mono ?_); rintro e w6 ⟨rfl, hb6⟩; have hs6 := (H5.out.1.below hb6).held HS.out.1; have H6 := Lib.hid (And.intro (H5.out.1.below hb6) ((hb6.block _ (Array.getElem?_eq_some_iff.1 H5.out.2).1).trans H5.out.2)); clear hb6))
    obtain ⟨c0, c1', c2, c3, c4⟩ := five_cells H6.out.1.1
    have fz := five_free H6.out.1.1
    have f0 := fz 0
    obtain ⟨d0, d1, d2, d3, d4⟩ := five_cells H6.out.2
    have hlt : w2.heap.size ≠ w.heap.size := fun e => by
      have h1 := H2.out.1
      have := (Array.getElem?_eq_some_iff.1 h1).1
      omega
    clear fz hs6 hbt
    go_wp2_with fail
    have HE := Lib.hid (H6.out.1.2.2.setCell (p := ⟨w.heap.size, 0, none⟩) (Nat.le_refl _) (.int .i64 0))
    refine (known_any _ (HS.out.2.below HE.out)).mono ?_
    rintro e w7 ⟨rfl, hb7⟩
    have HE7 := Lib.hid (HE.out.trans (hb7.mono HE.out.size))
    clear hb7
    go_wp2_with fail
    go_ret
    exact ⟨rfl, HE7.out⟩

set_option maxHeartbeats 2000000 in
set_option maxRecDepth 100000 in
/-- THE LAW's WALK. -/
theorem mbytes_law (m : Mk) (hs : I64 m.st) (w : World) (hg : NetP.Glob w) :
    Calls Tryd.prog 3 #[m.v] w fun e w' => e = .returned (.bool true) ∧ Below w.heap.size w w' := by
  obtain ⟨gen, n, done, st, out⟩ := m
  show Calls Tryd.prog 3 #[.agg #[.int .i64 gen, .int .i64 n, .bool done, .int .i64 st, .string out]] w _
  by_cases h : (300 : Int) < (out.size : Int)
  · have HB := Lib.hid (show Below w.heap.size w (w.alloc (.cells #[.int .i64 gen, .int .i64 n, .bool done, .int .i64 st, .string out] 25)) from (Below.refl _ _).alloc (Nat.le_refl _) _)
    clear hs hg
    go_enter Tryd.func3, Tryd.ntmps3
    go_wp2_with fail
    go_ret
    exact ⟨rfl, HB.out⟩
  · exact mbytes_in gen n done st out hs (by omega) w hg
end Go.Proofs.YtilplpjdbkipoaaDoor
