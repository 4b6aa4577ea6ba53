/-
  Proved: mark's Bytes and Read answer a mark's bytes, bytes' mark. Conditions: the numbers fit, the text is of at most a million bytes; the library's table and its two sentinel errors read as laid.
-/
import Derived.Test.YtilplpjdbkipoaaGreatDoorMarkIs
import Derived.Test.YtilplpjdbkipoaaGreatDoorNetCalls
import Derived.Test.YtilplpjdbkipoaaGreatDoorSpanSt
import Derived.Deep.RegionHeld3
namespace Go.Proofs.YtilplpjdbkipoaaGreatDoor
open Go Go.RowKit NetMath NetMem MarkMath SpanMath

/-- A net.Text, its slice written out. -/
theorem text_q (s : ByteArray) (hs : s.size ≤ 1000000) (w : World) (ht : NetP.Tab w) :
    Calls Tryz.prog 42 #[.string s] w fun e w' => ∃ p c, e = .returned (.slice p (textB s.data.toList).length c) ∧ Row w' (.slice p (textB s.data.toList).length c) (textB s.data.toList) ∧ Below w.heap.size w w' :=
  (NetP.text_any s (by omega) w ht).mono fun e w' ⟨v, he, ho, hb⟩ => by
    obtain ⟨p, c, hv, -⟩ := id ho.row
    subst hv
    exact ⟨p, c, he, ho.row, hb⟩
theorem raw_flat (m : Mk) : [numB m.n, numB (doneN m.done), numB m.st, textB m.out.data.toList].flatten = m.raw := by simp [Mk.raw]
/-- What a box of a mark holds. -/
def BoxS (B : Nat) (m : Mk) (W : World) : Prop := W.cell? ⟨B, 1, none⟩ = some (.int .i64 m.n) ∧ W.cell? ⟨B, 2, none⟩ = some (.bool m.done) ∧ W.cell? ⟨B, 3, none⟩ = some (.int .i64 m.st) ∧ W.cell? ⟨B, 4, none⟩ = some (.string m.out)
theorem BoxS.below {B : Nat} {m : Mk} {W W' : World} (h : BoxS B m W) (hb : Below W.heap.size W W') : BoxS B m W' :=
  ⟨by rw [hb.cell (p := ⟨B, 1, none⟩) (lt_of_cell h.1)]; exact h.1, by rw [hb.cell (p := ⟨B, 2, none⟩) (lt_of_cell h.2.1)]; exact h.2.1, by rw [hb.cell (p := ⟨B, 3, none⟩) (lt_of_cell h.2.2.1)]; exact h.2.2.1, by rw [hb.cell (p := ⟨B, 4, none⟩) (lt_of_cell h.2.2.2)]; exact h.2.2.2⟩

/-! The way through Bytes: what is held behind each call. -/
theorem concat_four (W : World) (q1 q2 q3 q4 : Option Addr) (n1 n2 n3 n4 c1 c2 c3 c4 : Nat) (l1 l2 l3 l4 : List UInt8) (h1 : Row W (.slice q1 n1 c1) l1) (h2 : Row W (.slice q2 n2 c2) l2) (h3 : Row W (.slice q3 n3 c3) l3) (h4 : Row W (.slice q4 n4 c4) l4)
    (m : List UInt8) (hm : l1 ++ (l2 ++ (l3 ++ l4)) = m) (hl : 1 ≤ m.length) (hu : m.length ≤ 1000000) :
    Calls Tryz.prog 40 #[.slice (some ⟨W.heap.size, 0, none⟩) 4 4] (W.alloc (.cells #[.slice q1 n1 c1, .slice q2 n2 c2, .slice q3 n3 c3, .slice q4 n4 c4] 56)) fun e w' => ∃ v, e = .returned v ∧ NetMem.Own w' W.heap.size v m ∧ Below W.heap.size W w' := by
  have hr := RowsAt.four W 56 q1 q2 q3 q4 n1 n2 n3 n4 c1 c2 c3 c4 l1 l2 l3 l4 h1 h2 h3 h4
  have hf : [l1, l2, l3, l4].flatten = m := by rw [← hm]; simp
  have hb : Below W.heap.size W (W.alloc (.cells #[.slice q1 n1 c1, .slice q2 n2 c2, .slice q3 n3 c3, .slice q4 n4 c4] 56)) := (Below.refl _ W).alloc (Nat.le_refl _) _
  refine (concat_any _ 4 [l1, l2, l3, l4] _ hr (show 4 ≤ 1000000 by omega) (by rw [hf]; exact hl) (by rw [hf]; exact hu)).mono ?_
  rintro e w' ⟨v, rfl, ho, hb'⟩
  rw [hf] at ho
  exact ⟨v, rfl, ho.mono hb.size, hb.trans (hb'.mono hb.size)⟩
theorem bytes_s {B : Nat} {m : Mk} {W W' : World} (h : BoxS B m W) (hb : Below W.heap.size W W') : W'.cell? ⟨B, 1, none⟩ = some (.int .i64 m.n) ∧ W'.cell? ⟨B, 3, none⟩ = some (.int .i64 m.st) ∧ W'.cell? ⟨B, 4, none⟩ = some (.string m.out) :=
  ⟨(h.below hb).1, (h.below hb).2.2.1, (h.below hb).2.2.2⟩
theorem bytes_1 {w : World} {B : Nat} {m : Mk} {W W' : World} {v : Value} {l : List UInt8} (h : Below w.heap.size w W ∧ BoxS B m W ∧ NetP.Glob W) (hr : Row W' v l) (hb : Below W.heap.size W W') : Row W' v l ∧ Below w.heap.size w W' ∧ BoxS B m W' ∧ NetP.Glob W' :=
  ⟨hr, h.1.trans (hb.mono h.1.size), h.2.1.below hb, h.2.2.below hb⟩
theorem bytes_4 {w : World} {B : Nat} {m : Mk} {W W' : World} {v1 v2 v3 v : Value} {l1 l2 l3 l : List UInt8} (h : Row W v1 l1 ∧ Row W v2 l2 ∧ Row W v3 l3 ∧ Below w.heap.size w W ∧ BoxS B m W ∧ NetP.Glob W) (hr : Row W' v l) (hb : Below W.heap.size W W') : Row W' v1 l1 ∧ Row W' v2 l2 ∧ Row W' v3 l3 ∧ Row W' v l ∧ Below w.heap.size w W' ∧ BoxS B m W' ∧ NetP.Glob W' :=
  ⟨h.1.below hb, h.2.1.below hb, h.2.2.1.below hb, bytes_1 h.2.2.2 hr hb⟩

set_option maxHeartbeats 2000000 in
set_option maxRecDepth 100000 in
theorem bytes_is (gen n : Int) (done : Bool) (st : Int) (out : ByteArray) (hm : Mk.is ⟨gen, n, done, st, out⟩ = true) (hs : I64 st) (ho : out.size ≤ 900000) (w : World) (hg : NetP.Glob w) :
    Calls Tryz.prog 22 #[.agg #[.int .i64 gen, .int .i64 n, .bool done, .int .i64 st, .string out]] w fun e w' => ∃ v, e = .returned v ∧ NetMem.Own w' w.heap.size v (Mk.raw ⟨gen, n, done, st, out⟩) ∧ Below w.heap.size w w' := by
  obtain ⟨g0, g1, n0, n1⟩ := is_gen hm
  have hlen := raw_len ⟨gen, n, done, st, out⟩ ⟨by omega, by omega⟩ hs (show out.size ≤ 1000000 by omega)
  have HI := Lib.hid (fun W => isMark_any ⟨gen, n, done, st, out⟩ W)
  rw [hm] at HI
  have H0 := Lib.hid (And.intro hg (And.intro hs (And.intro ho (And.intro hlen (show I64 n from ⟨by simp only at n0; omega, by simp only at n1; omega⟩)))))
  have HA := Lib.hid (show Below w.heap.size w (w.alloc (.cells #[.int .i64 gen, .int .i64 n, .bool done, .int .i64 st, .string out] 35)) ∧ BoxS w.heap.size ⟨gen, n, done, st, out⟩ (w.alloc (.cells #[.int .i64 gen, .int .i64 n, .bool done, .int .i64 st, .string out] 35)) from ⟨(Below.refl _ _).alloc (Nat.le_refl _) _, by simp, by simp, by simp⟩)
  clear hg hs ho hlen hm g0 g1 n0 n1
  obtain ⟨DN, hDN⟩ : ∃ DN, DN = doneN done := ⟨_, rfl⟩
  have HDN := Lib.hid hDN
  have HC := Lib.hid (fun W (h : NetP.Glob W) => NetP.num_any2 n H0.out.2.2.2.2 W h.1)
  have HC2 := Lib.hid (fun W (h : NetP.Glob W) => NetP.num_any2 DN (by rw [hDN]; exact doneN_I done) W h.1)
  have HC3 := Lib.hid (fun W (h : NetP.Glob W) => NetP.num_any2 st H0.out.2.1 W h.1)
  have HC4 := Lib.hid (fun W (h : NetP.Glob W) => text_q out (by have := H0.out.2.2.1; omega) W h.1)
  cases done with
  | true =>
    have e : DN = 1 := hDN
    subst e
    have HR := Lib.hid (show numB n ++ (numB 1 ++ (numB st ++ textB out.data.toList)) = Mk.raw ⟨gen, n, true, st, out⟩ ∧ 1 ≤ (Mk.raw ⟨gen, n, true, st, out⟩).length ∧ (Mk.raw ⟨gen, n, true, st, out⟩).length ≤ 1000000 from ⟨rfl, by have := H0.out.2.2.2.1; simp only at this; omega, by have := H0.out.2.2.2.1; have := H0.out.2.2.1; simp only at *; omega⟩)
    clear hDN
    go_enter Tryz.func22, Tryz.ntmps22
    go_wp2_with fail
    refine (HI.out _).mono ?_
    rintro e w1 ⟨rfl, hb1⟩
    have hbx := HA.out.2.below hb1
    have HB1 := Lib.hid (And.intro hbx (HA.out.1.trans (hb1.mono HA.out.1.size)))
    obtain ⟨bx1, bx2, bx3, bx4⟩ := hbx
    have hdr := below_drew w1.heap.size w1
    have HD := Lib.hid (show Below w.heap.size w w1.drew ∧ BoxS w.heap.size ⟨gen, n, true, st, out⟩ w1.drew ∧ NetP.Glob w1.drew from ⟨HB1.out.2.trans (hdr.mono HB1.out.2.size), HB1.out.1.below hdr, H0.out.1.below (HB1.out.2.trans (hdr.mono HB1.out.2.size))⟩)
    have HS0 := Lib.hid (show w1.drew.cell? ⟨w.heap.size, 1, none⟩ = some (.int .i64 n) ∧ w1.drew.cell? ⟨w.heap.size, 3, none⟩ = some (.int .i64 st) ∧ w1.drew.cell? ⟨w.heap.size, 4, none⟩ = some (.string out) from ⟨HD.out.2.1.1, HD.out.2.1.2.2.1, HD.out.2.1.2.2.2⟩)
    clear hb1 hdr
    go_wp2_with fail
    clear bx1 bx2 bx3 bx4
    go_region_held (fun W => W.cell? ⟨w.heap.size, 1, none⟩ = some (.int .i64 n) ∧ W.cell? ⟨w.heap.size, 3, none⟩ = some (.int .i64 st) ∧ W.cell? ⟨w.heap.size, 4, none⟩ = some (.string out)) (first | assumption | exact HS0.out | exact bytes_s H4.out.2.2.2.2.2.1 ((Below.refl _ _).alloc (Nat.le_refl _) _))
      (first
        | (go_at_call 41; (with_reducible refine (HC.out _ HD.out.2.2).mono ?_); rintro e w2 ⟨p1, c1, rfl, hr1, hb1⟩; have hs1 := bytes_s HD.out.2.1 hb1; have H1 := Lib.hid (bytes_1 HD.out hr1 hb1); clear hr1 hb1)
        | (go_at_call 41; (with_reducible refine (HC2.out _ H1.out.2.2.2).mono ?_); rintro e w3 ⟨p2, c2, rfl, hr2, hb2⟩; have hs2 := bytes_s H1.out.2.2.1 hb2; have H2 := Lib.hid (And.intro (H1.out.1.below hb2) (bytes_1 H1.out.2 hr2 hb2)); clear hr2 hb2)
        | (go_at_call 41; (with_reducible refine (HC3.out _ H2.out.2.2.2.2).mono ?_); rintro e w4 ⟨p3, c3, rfl, hr3, hb3⟩; have hs3 := bytes_s H2.out.2.2.2.1 hb3; have H3 := Lib.hid (And.intro (H2.out.1.below hb3) (And.intro (H2.out.2.1.below hb3) (bytes_1 H2.out.2.2 hr3 hb3))); clear hr3 hb3)
        | (go_at_call 42; (with_reducible refine (HC4.out _ H3.out.2.2.2.2.2).mono ?_); rintro e w5 ⟨p4, c4, rfl, hr4, hb4⟩; have hs4 := bytes_s H3.out.2.2.2.2.1 hb4; have H4 := Lib.hid (bytes_4 H3.out hr4 hb4); clear hr4 hb4)
        | (go_at_call 40; (with_reducible refine (concat_four _ _ _ _ _ _ _ _ _ _ _ _ _ _ _ _ _ H4.out.1 H4.out.2.1 H4.out.2.2.1 H4.out.2.2.2.1 _ HR.out.1 HR.out.2.1 HR.out.2.2).mono ?_); rintro e w6 ⟨v, rfl, ho6, hb6⟩; have hs6 := bytes_s H4.out.2.2.2.2.2.1 hb6; have H6 := Lib.hid (And.intro ho6 hb6); clear ho6 hb6))
    go_wp2_with fail
    go_ret
    exact ⟨_, rfl, H6.out.1.mono H4.out.2.2.2.2.1.size, H4.out.2.2.2.2.1.trans (H6.out.2.mono H4.out.2.2.2.2.1.size)⟩
  | false =>
    have e : DN = 0 := hDN
    subst e
    have HR := Lib.hid (show numB n ++ (numB 0 ++ (numB st ++ textB out.data.toList)) = Mk.raw ⟨gen, n, false, st, out⟩ ∧ 1 ≤ (Mk.raw ⟨gen, n, false, st, out⟩).length ∧ (Mk.raw ⟨gen, n, false, st, out⟩).length ≤ 1000000 from ⟨rfl, by have := H0.out.2.2.2.1; simp only at this; omega, by have := H0.out.2.2.2.1; have := H0.out.2.2.1; simp only at *; omega⟩)
    clear hDN
    go_enter Tryz.func22, Tryz.ntmps22
    go_wp2_with fail
    refine (HI.out _).mono ?_
    rintro e w1 ⟨rfl, hb1⟩
    have hbx := HA.out.2.below hb1
    have HB1 := Lib.hid (And.intro hbx (HA.out.1.trans (hb1.mono HA.out.1.size)))
    obtain ⟨bx1, bx2, bx3, bx4⟩ := hbx
    have hdr := below_drew w1.heap.size w1
    have HD := Lib.hid (show Below w.heap.size w w1.drew ∧ BoxS w.heap.size ⟨gen, n, false, st, out⟩ w1.drew ∧ NetP.Glob w1.drew from ⟨HB1.out.2.trans (hdr.mono HB1.out.2.size), HB1.out.1.below hdr, H0.out.1.below (HB1.out.2.trans (hdr.mono HB1.out.2.size))⟩)
    have HS0 := Lib.hid (show w1.drew.cell? ⟨w.heap.size, 1, none⟩ = some (.int .i64 n) ∧ w1.drew.cell? ⟨w.heap.size, 3, none⟩ = some (.int .i64 st) ∧ w1.drew.cell? ⟨w.heap.size, 4, none⟩ = some (.string out) from ⟨HD.out.2.1.1, HD.out.2.1.2.2.1, HD.out.2.1.2.2.2⟩)
    clear hb1 hdr
    go_wp2_with fail
    clear bx1 bx2 bx3 bx4
    go_region_held (fun W => W.cell? ⟨w.heap.size, 1, none⟩ = some (.int .i64 n) ∧ W.cell? ⟨w.heap.size, 3, none⟩ = some (.int .i64 st) ∧ W.cell? ⟨w.heap.size, 4, none⟩ = some (.string out)) (first | assumption | exact HS0.out | exact bytes_s H4.out.2.2.2.2.2.1 ((Below.refl _ _).alloc (Nat.le_refl _) _))
      (first
        | (go_at_call 41; (with_reducible refine (HC.out _ HD.out.2.2).mono ?_); rintro e w2 ⟨p1, c1, rfl, hr1, hb1⟩; have hs1 := bytes_s HD.out.2.1 hb1; have H1 := Lib.hid (bytes_1 HD.out hr1 hb1); clear hr1 hb1)
        | (go_at_call 41; (with_reducible refine (HC2.out _ H1.out.2.2.2).mono ?_); rintro e w3 ⟨p2, c2, rfl, hr2, hb2⟩; have hs2 := bytes_s H1.out.2.2.1 hb2; have H2 := Lib.hid (And.intro (H1.out.1.below hb2) (bytes_1 H1.out.2 hr2 hb2)); clear hr2 hb2)
        | (go_at_call 41; (with_reducible refine (HC3.out _ H2.out.2.2.2.2).mono ?_); rintro e w4 ⟨p3, c3, rfl, hr3, hb3⟩; have hs3 := bytes_s H2.out.2.2.2.1 hb3; have H3 := Lib.hid (And.intro (H2.out.1.below hb3) (And.intro (H2.out.2.1.below hb3) (bytes_1 H2.out.2.2 hr3 hb3))); clear hr3 hb3)
        | (go_at_call 42; (with_reducible refine (HC4.out _ H3.out.2.2.2.2.2).mono ?_); rintro e w5 ⟨p4, c4, rfl, hr4, hb4⟩; have hs4 := bytes_s H3.out.2.2.2.2.1 hb4; have H4 := Lib.hid (bytes_4 H3.out hr4 hb4); clear hr4 hb4)
        | (go_at_call 40; (with_reducible refine (concat_four _ _ _ _ _ _ _ _ _ _ _ _ _ _ _ _ _ H4.out.1 H4.out.2.1 H4.out.2.2.1 H4.out.2.2.2.1 _ HR.out.1 HR.out.2.1 HR.out.2.2).mono ?_); rintro e w6 ⟨v, rfl, ho6, hb6⟩; have hs6 := bytes_s H4.out.2.2.2.2.2.1 hb6; have H6 := Lib.hid (And.intro ho6 hb6); clear ho6 hb6))
    go_wp2_with fail
    go_ret
    exact ⟨_, rfl, H6.out.1.mono H4.out.2.2.2.2.1.size, H4.out.2.2.2.2.1.trans (H6.out.2.mono H4.out.2.2.2.2.1.size)⟩

theorem bytes_any (m : Mk) (hs : I64 m.st) (ho : m.out.size ≤ 900000) (w : World) (hg : NetP.Glob w) :
    Calls Tryz.prog 22 #[m.v] w fun e w' => ∃ v, e = .returned v ∧ NetMem.Own w' w.heap.size v m.bytes ∧ Below w.heap.size w w' := by
  obtain ⟨gen, n, done, st, out⟩ := m
  unfold Mk.bytes
  cases hm : Mk.is ⟨gen, n, done, st, out⟩ with
  | true => exact bytes_is gen n done st out hm hs ho w hg
  | false =>
    have HI := Lib.hid (fun W => isMark_any ⟨gen, n, done, st, out⟩ W)
    rw [hm] at HI
    have HB := Lib.hid (show Below w.heap.size w (w.alloc (.cells #[.int .i64 gen, .int .i64 n, .bool done, .int .i64 st, .string out] 35)) from (Below.refl _ _).alloc (Nat.le_refl _) _)
    show Calls Tryz.prog 22 #[.agg #[.int .i64 gen, .int .i64 n, .bool done, .int .i64 st, .string out]] w _
    clear hm hs ho hg
    go_enter Tryz.func22, Tryz.ntmps22
    go_wp2_with fail
    refine (HI.out _).mono ?_
    rintro e w1 ⟨rfl, hb1⟩
    have HB1 := Lib.hid (HB.out.trans (hb1.mono HB.out.size))
    clear hb1
    go_wp2_with fail
    go_ret
    exact ⟨_, rfl, NetMem.Own.nil _ _, HB1.out⟩
/-- .. its slice written out. -/
theorem bytes_q (m : Mk) (hs : I64 m.st) (ho : m.out.size ≤ 900000) (w : World) (hg : NetP.Glob w) :
    Calls Tryz.prog 22 #[m.v] w fun e w' => ∃ p c, e = .returned (.slice p m.bytes.length c) ∧ NetMem.Own w' w.heap.size (.slice p m.bytes.length c) m.bytes ∧ Below w.heap.size w w' :=
  (bytes_any m hs ho w hg).mono fun e w' ⟨v, he, ho, hb⟩ => by
    obtain ⟨p, c, hv, -⟩ := id ho.row
    subst hv
    exact ⟨p, c, he, ho, hb⟩
end Go.Proofs.YtilplpjdbkipoaaGreatDoor
