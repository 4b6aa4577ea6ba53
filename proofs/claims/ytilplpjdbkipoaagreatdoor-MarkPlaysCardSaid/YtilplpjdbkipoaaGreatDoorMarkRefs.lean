/-
  Proved: texts joined: Proved: the statements' own package of chapter 6 tells the same marks, puts the same bytes. Conditions: the numbers fit, the text is of at most 900000 bytes.
  Proved: the statements' own package of chapter 6 reads the same marks. Conditions: at most 900000 bytes.
-/
import Derived.Test.YtilplpjdbkipoaaGreatDoorMarkRead
import Derived.Test.YtilplpjdbkipoaaGreatDoorNetRefs
namespace Go.Proofs.YtilplpjdbkipoaaGreatDoor
open Go Go.RowKit NetMath NetMem MarkMath SpanMath

set_option maxHeartbeats 2000000 in
set_option maxRecDepth 100000 in
theorem ris_any (m : Mk) (w : World) :
    Calls Tryz.prog 27 #[m.v] w fun e w' => e = .returned (.bool m.is) ∧ Below w.heap.size w w' := by
  obtain ⟨gen, n, done, st, out⟩ := m
  show Calls Tryz.prog 27 #[.agg #[.int .i64 gen, .int .i64 n, .bool done, .int .i64 st, .string out]] w _
  have HB := Lib.hid (show Below w.heap.size w (w.alloc (.cells #[.int .i64 gen, .int .i64 n, .bool done, .int .i64 st, .string out] 35)) from (Below.refl _ _).alloc (Nat.le_refl _) _)
  cases hg : isGenB gen with
  | false =>
    have HM := Lib.hid (show Mk.is ⟨gen, n, done, st, out⟩ = false from by simp [Mk.is, hg])
    rw [HM.out]
    by_cases g0 : 0 ≤ gen
    · have g1 : ¬ gen ≤ 2147483646 := fun e => by simp [isGenB, g0, e] at hg
      clear hg
      go_enter Tryz.func27, Tryz.ntmps27
      go_wp2_with fail
      go_ret
      exact ⟨rfl, HB.out⟩
    · clear hg
      go_enter Tryz.func27, Tryz.ntmps27
      go_wp2_with fail
      go_ret
      exact ⟨rfl, HB.out⟩
  | true =>
    have hg2 : 0 ≤ gen ∧ gen ≤ 2147483646 := by simpa [isGenB] using hg
    have g0 := hg2.1
    have g1 := hg2.2
    by_cases h0 : 0 ≤ n
    · by_cases h1 : n ≤ 2147483647
      · cases done with
        | true =>
          have HM := Lib.hid (show Mk.is ⟨gen, n, true, st, out⟩ = true from by simp [Mk.is, hg, h0, h1])
          rw [HM.out]
          clear hg
          go_enter Tryz.func27, Tryz.ntmps27
          go_wp2_with fail
          go_ret
          exact ⟨rfl, HB.out⟩
        | false =>
          by_cases hs : st = 0
          · subst hs
            by_cases ho : out = noB
            · subst ho
              have HM := Lib.hid (show Mk.is ⟨gen, n, false, 0, noB⟩ = true from by simp [Mk.is, hg, h0, h1])
              rw [HM.out]
              unfold noB at *
              clear hg hg2
              go_enter Tryz.func27, Tryz.ntmps27
              go_wp2_with fail
              go_ret
              exact ⟨rfl, HB.out⟩
            · have HM := Lib.hid (show Mk.is ⟨gen, n, false, 0, out⟩ = false from by simp [Mk.is, ho])
              have ho2 := fun e => ho (out_nil e)
              rw [HM.out]
              clear ho
              clear hg hg2
              go_enter Tryz.func27, Tryz.ntmps27
              go_wp2_with fail
              go_ret
              exact ⟨rfl, HB.out⟩
          · have HM := Lib.hid (show Mk.is ⟨gen, n, false, st, out⟩ = false from by simp [Mk.is, hs])
            rw [HM.out]
            clear hg hg2
            go_enter Tryz.func27, Tryz.ntmps27
            go_wp2_with fail
            go_ret
            exact ⟨rfl, HB.out⟩
      · have HM := Lib.hid (show Mk.is ⟨gen, n, done, st, out⟩ = false from by simp [Mk.is, hg, h0, h1])
        rw [HM.out]
        clear hg
        go_enter Tryz.func27, Tryz.ntmps27
        go_wp2_with fail
        go_ret
        exact ⟨rfl, HB.out⟩
    · have HM := Lib.hid (show Mk.is ⟨gen, n, done, st, out⟩ = false from by simp [Mk.is, hg, h0])
      rw [HM.out]
      clear hg
      go_enter Tryz.func27, Tryz.ntmps27
      go_wp2_with fail
      go_ret
      exact ⟨rfl, HB.out⟩

theorem refnum_q (n : Int) (hn : I64 n) (w : World) :
    Calls Tryz.prog 48 #[.int .i64 n] w fun e w' => ∃ v, e = .returned v ∧ NetMem.Own w' w.heap.size v (numB n) ∧ Row w' v (numB n) ∧ Below w.heap.size w w' :=
  (NetP.refnum_any n hn w).mono fun _ _ ⟨v, he, ho, hb⟩ => ⟨v, he, ho, ho.row, hb⟩

theorem BoxS.grown {B : Nat} {m : Mk} {W W' : World} {row : Option Nat} (h : BoxS B m W) (hg : W.grownBy W' row) (hr : ∀ k, row = some k → B + 1 ≤ k) : BoxS B m W' := by
  have hne : some B ≠ row := fun e => by have := hr B e.symm; omega
  exact ⟨hg.cell h.1 hne, hg.cell h.2.1 hne, hg.cell h.2.2.1 hne, hg.cell h.2.2.2 hne⟩
/-- The way through the other Bytes: what was put so far. -/
def PutW (w : World) (m : Mk) (v : Value) (l : List UInt8) (W : World) : Prop := NetMem.Own W (w.heap.size + 1) v l ∧ BoxS w.heap.size m W ∧ Below w.heap.size w W ∧ w.heap.size + 1 ≤ W.heap.size
theorem PutW.below {w : World} {m : Mk} {v : Value} {l : List UInt8} {W W' : World} (h : PutW w m v l W) (hb : Below W.heap.size W W') : PutW w m v l W' :=
  ⟨h.1.below hb, h.2.1.below hb, h.2.2.1.trans (hb.mono h.2.2.1.size), Nat.le_trans h.2.2.2 hb.size⟩
theorem PutW.grown {w : World} {m : Mk} {v v' : Value} {l l' : List UInt8} {W W' : World} (h : PutW w m v l W) (ho : NetMem.Own W' (w.heap.size + 1) v' l') (hg : W.grownBy W' v.ownBlock) : PutW w m v' l' W' :=
  ⟨ho, h.2.1.grown hg fun k hk => (h.1.lt k hk).1, h.2.2.1.grown hg h.2.2.1.size fun k hk => by have := (h.1.lt k hk).1; omega, Nat.le_trans h.2.2.2 hg.size⟩

set_option maxHeartbeats 2000000 in
set_option maxRecDepth 100000 in
theorem rbytes_is (gen n : Int) (done : Bool) (st : Int) (out : ByteArray) (hm : Mk.is ⟨gen, n, done, st, out⟩ = true) (hs : I64 st) (ho : out.size ≤ 900000) (w : World) :
    Calls Tryz.prog 28 #[.agg #[.int .i64 gen, .int .i64 n, .bool done, .int .i64 st, .string out]] w fun e w' => ∃ v, e = .returned v ∧ NetMem.Own w' w.heap.size v (Mk.raw ⟨gen, n, done, st, out⟩) ∧ Below w.heap.size w w' := by
  obtain ⟨g0, g1, n0, n1⟩ := is_gen hm
  have HI := Lib.hid (fun W => ris_any ⟨gen, n, done, st, out⟩ W)
  rw [hm] at HI
  obtain ⟨i0, hi, hz0, hz1, hz2⟩ := info_parts infoB
  have HZ := Lib.hid (And.intro hi (And.intro hz0 (And.intro hz1 hz2)))
  have H0 := Lib.hid (And.intro hs (And.intro ho (show I64 n from ⟨by simp only at n0; omega, by simp only at n1; omega⟩)))
  have HA := Lib.hid (show Below w.heap.size w (w.alloc (.cells #[.int .i64 gen, .int .i64 n, .bool done, .int .i64 st, .string out] 35)) ∧ BoxS w.heap.size ⟨gen, n, done, st, out⟩ (w.alloc (.cells #[.int .i64 gen, .int .i64 n, .bool done, .int .i64 st, .string out] 35)) from ⟨(Below.refl _ _).alloc (Nat.le_refl _) _, by simp, by simp, by simp, by simp⟩)
  obtain ⟨L1, hL1⟩ : ∃ L, L = numB n := ⟨_, rfl⟩
  obtain ⟨L2, hL2⟩ : ∃ L, L = numB (doneN done) := ⟨_, rfl⟩
  obtain ⟨L3, hL3⟩ : ∃ L, L = numB st := ⟨_, rfl⟩
  obtain ⟨L4, hL4⟩ : ∃ L, L = textB out.data.toList := ⟨_, rfl⟩
  obtain ⟨DN, hDN⟩ : ∃ DN, DN = doneN done := ⟨_, rfl⟩
  have HC1 := Lib.hid (fun W => refnum_q n H0.out.2.2 W)
  have HC2 := Lib.hid (fun W => refnum_q DN (by rw [hDN]; exact doneN_I done) W)
  have HC3 := Lib.hid (fun W => refnum_q st H0.out.1 W)
  have HC4 := Lib.hid (fun W => NetP.reftext_any out (by have := H0.out.2.1; omega) W)
  rw [hDN] at HC2
  rw [← hL1] at HC1
  rw [← hL2] at HC2
  rw [← hL3] at HC3
  rw [← hL4] at HC4
  have HRAW := Lib.hid (show Mk.raw ⟨gen, n, done, st, out⟩ = L1 ++ (L2 ++ (L3 ++ L4)) ∧ L1.length ≤ 21 ∧ L2.length ≤ 21 ∧ L3.length ≤ 21 ∧ L4.length ≤ 1000000 from by
    refine ⟨by rw [hL1, hL2, hL3, hL4]; rfl, ?_, ?_, ?_, ?_⟩
    · rw [hL1]; exact (numB_le _ H0.out.2.2).2
    · rw [hL2]; exact (numB_le _ (doneN_I done)).2
    · rw [hL3]; exact (numB_le _ H0.out.1).2
    · rw [hL4]
      have e : out.data.toList.length = out.size := by rw [Array.length_toList]; rfl
      have := H0.out.2.1
      have h4 := (numB_le (out.data.toList.length : Int) ⟨by omega, by omega⟩).2
      simp only [textB, List.length_append]
      omega)
  clear hs ho hm g0 g1 n0 n1 hL1 hL2 hL3 hL4 hi hz0 hz1 hz2 hDN
  cases done with
  | true =>
    go_enter Tryz.func28, Tryz.ntmps28
    go_wp2_with fail
    refine (HI.out _).mono ?_
    rintro e w1 ⟨rfl, hb1⟩
    obtain ⟨bx1, bx2, bx3, bx4⟩ := HA.out.2.below hb1
    have hs1 := hb1.size
    simp at hs1
    have H1 := Lib.hid (show BoxS w.heap.size ⟨gen, n, true, st, out⟩ w1 ∧ Below w.heap.size w w1 ∧ w.heap.size + 1 ≤ w1.heap.size from ⟨HA.out.2.below hb1, HA.out.1.trans (hb1.mono HA.out.1.size), hs1⟩)
    clear hb1 hs1
    go_wp2_with fail
    refine (HC1.out _).mono ?_
    rintro e w2 ⟨v2, rfl, ho2, hr2, hb2⟩
    have H2 := Lib.hid (show PutW w ⟨gen, n, true, st, out⟩ v2 L1 w2 from ⟨ho2.mono H1.out.2.2, H1.out.1.below hb2, H1.out.2.1.trans (hb2.mono H1.out.2.1.size), Nat.le_trans H1.out.2.2 hb2.size⟩)
    clear ho2 hr2 hb2 bx1 bx2 bx3 bx4
    go_wp2_with fail
    refine (HC2.out _).mono ?_
    rintro e w3 ⟨v3, rfl, ho3, hr3, hb3⟩
    have H3 := Lib.hid (H2.out.below hb3)
    have ho2 := H3.out.1
    have hsrc := hr3.src (P := Tryz.prog) Tryz.underlying56
    clear ho3 hr3 hb3
    go_wp2_with (at_builtin; refine wpList_append_bytes _ rfl _ _ 56 56 rfl 5 i0 Tryz.underlying56 HZ.out.1 HZ.out.2.1 HZ.out.2.2.1 HZ.out.2.2.2 (w.heap.size + 1) _ _ rfl ho2 _ L2 rfl hsrc ?lim ?hB ?_)
    case lim => have := HRAW.out.2; omega
    case hB => exact H3.out.2.2.2
    intro v4 w4 ho4 hg4 _
    have H4 := Lib.hid (H3.out.grown ho4 hg4)
    obtain ⟨bx1, bx2, bx3, bx4⟩ := H4.out.2.1
    clear ho4 hg4 ho2 hsrc
    go_wp2_with fail
    refine (HC3.out _).mono ?_
    rintro e w5 ⟨v5, rfl, ho3, hr3, hb3⟩
    have H5 := Lib.hid (H4.out.below hb3)
    have ho2 := H5.out.1
    have hsrc := hr3.src (P := Tryz.prog) Tryz.underlying56
    clear ho3 hr3 hb3 bx1 bx2 bx3 bx4
    go_wp2_with (at_builtin; refine wpList_append_bytes _ rfl _ _ 56 56 rfl 5 i0 Tryz.underlying56 HZ.out.1 HZ.out.2.1 HZ.out.2.2.1 HZ.out.2.2.2 (w.heap.size + 1) _ _ rfl ho2 _ L3 rfl hsrc ?lim ?hB ?_)
    case lim => have := HRAW.out.2; simp only [List.length_append]; omega
    case hB => exact H5.out.2.2.2
    intro v6 w6 ho4 hg4 _
    have H6 := Lib.hid (H5.out.grown ho4 hg4)
    obtain ⟨bx1, bx2, bx3, bx4⟩ := H6.out.2.1
    clear ho4 hg4 ho2 hsrc
    go_wp2_with fail
    refine (HC4.out _).mono ?_
    rintro e w7 ⟨v7, rfl, ho3, hb3⟩
    have H7 := Lib.hid (H6.out.below hb3)
    have ho2 := H7.out.1
    have hsrc := ho3.row.src (P := Tryz.prog) Tryz.underlying56
    clear ho3 hb3 bx1 bx2 bx3 bx4
    go_wp2_with (at_builtin; refine wpList_append_bytes _ rfl _ _ 56 56 rfl 5 i0 Tryz.underlying56 HZ.out.1 HZ.out.2.1 HZ.out.2.2.1 HZ.out.2.2.2 (w.heap.size + 1) _ _ rfl ho2 _ L4 rfl hsrc ?lim ?hB ?_)
    case lim => have := HRAW.out.2; simp only [List.length_append]; omega
    case hB => exact H7.out.2.2.2
    intro v8 w8 ho4 hg4 _
    have H8 := Lib.hid (H7.out.grown ho4 hg4)
    clear ho4 hg4 ho2 hsrc
    go_wp2_with fail
    go_ret
    refine ⟨_, rfl, ?_, H8.out.2.2.1⟩
    have := H8.out.1.mono (Nat.le_succ w.heap.size)
    rw [HRAW.out.1]
    simpa [List.append_assoc] using this
  | false =>
    go_enter Tryz.func28, Tryz.ntmps28
    go_wp2_with fail
    refine (HI.out _).mono ?_
    rintro e w1 ⟨rfl, hb1⟩
    obtain ⟨bx1, bx2, bx3, bx4⟩ := HA.out.2.below hb1
    have hs1 := hb1.size
    simp at hs1
    have H1 := Lib.hid (show BoxS w.heap.size ⟨gen, n, false, st, out⟩ w1 ∧ Below w.heap.size w w1 ∧ w.heap.size + 1 ≤ w1.heap.size from ⟨HA.out.2.below hb1, HA.out.1.trans (hb1.mono HA.out.1.size), hs1⟩)
    clear hb1 hs1
    go_wp2_with fail
    refine (HC1.out _).mono ?_
    rintro e w2 ⟨v2, rfl, ho2, hr2, hb2⟩
    have H2 := Lib.hid (show PutW w ⟨gen, n, false, st, out⟩ v2 L1 w2 from ⟨ho2.mono H1.out.2.2, H1.out.1.below hb2, H1.out.2.1.trans (hb2.mono H1.out.2.1.size), Nat.le_trans H1.out.2.2 hb2.size⟩)
    clear ho2 hr2 hb2 bx1 bx2 bx3 bx4
    go_wp2_with fail
    refine (HC2.out _).mono ?_
    rintro e w3 ⟨v3, rfl, ho3, hr3, hb3⟩
    have H3 := Lib.hid (H2.out.below hb3)
    have ho2 := H3.out.1
    have hsrc := hr3.src (P := Tryz.prog) Tryz.underlying56
    clear ho3 hr3 hb3
    go_wp2_with (at_builtin; refine wpList_append_bytes _ rfl _ _ 56 56 rfl 5 i0 Tryz.underlying56 HZ.out.1 HZ.out.2.1 HZ.out.2.2.1 HZ.out.2.2.2 (w.heap.size + 1) _ _ rfl ho2 _ L2 rfl hsrc ?lim ?hB ?_)
    case lim => have := HRAW.out.2; omega
    case hB => exact H3.out.2.2.2
    intro v4 w4 ho4 hg4 _
    have H4 := Lib.hid (H3.out.grown ho4 hg4)
    obtain ⟨bx1, bx2, bx3, bx4⟩ := H4.out.2.1
    clear ho4 hg4 ho2 hsrc
    go_wp2_with fail
    refine (HC3.out _).mono ?_
    rintro e w5 ⟨v5, rfl, ho3, hr3, hb3⟩
    have H5 := Lib.hid (H4.out.below hb3)
    have ho2 := H5.out.1
    have hsrc := hr3.src (P := Tryz.prog) Tryz.underlying56
    clear ho3 hr3 hb3 bx1 bx2 bx3 bx4
    go_wp2_with (at_builtin; refine wpList_append_bytes _ rfl _ _ 56 56 rfl 5 i0 Tryz.underlying56 HZ.out.1 HZ.out.2.1 HZ.out.2.2.1 HZ.out.2.2.2 (w.heap.size + 1) _ _ rfl ho2 _ L3 rfl hsrc ?lim ?hB ?_)
    case lim => have := HRAW.out.2; simp only [List.length_append]; omega
    case hB => exact H5.out.2.2.2
    intro v6 w6 ho4 hg4 _
    have H6 := Lib.hid (H5.out.grown ho4 hg4)
    obtain ⟨bx1, bx2, bx3, bx4⟩ := H6.out.2.1
    clear ho4 hg4 ho2 hsrc
    go_wp2_with fail
    refine (HC4.out _).mono ?_
    rintro e w7 ⟨v7, rfl, ho3, hb3⟩
    have H7 := Lib.hid (H6.out.below hb3)
    have ho2 := H7.out.1
    have hsrc := ho3.row.src (P := Tryz.prog) Tryz.underlying56
    clear ho3 hb3 bx1 bx2 bx3 bx4
    go_wp2_with (at_builtin; refine wpList_append_bytes _ rfl _ _ 56 56 rfl 5 i0 Tryz.underlying56 HZ.out.1 HZ.out.2.1 HZ.out.2.2.1 HZ.out.2.2.2 (w.heap.size + 1) _ _ rfl ho2 _ L4 rfl hsrc ?lim ?hB ?_)
    case lim => have := HRAW.out.2; simp only [List.length_append]; omega
    case hB => exact H7.out.2.2.2
    intro v8 w8 ho4 hg4 _
    have H8 := Lib.hid (H7.out.grown ho4 hg4)
    clear ho4 hg4 ho2 hsrc
    go_wp2_with fail
    go_ret
    refine ⟨_, rfl, ?_, H8.out.2.2.1⟩
    have := H8.out.1.mono (Nat.le_succ w.heap.size)
    rw [HRAW.out.1]
    simpa [List.append_assoc] using this

theorem rbytes_any (m : Mk) (hs : I64 m.st) (ho : m.out.size ≤ 900000) (w : World) :
    Calls Tryz.prog 28 #[m.v] w fun e w' => ∃ v, e = .returned v ∧ NetMem.Own w' w.heap.size v m.bytes ∧ Below w.heap.size w w' := by
  obtain ⟨gen, n, done, st, out⟩ := m
  unfold Mk.bytes
  cases hm : Mk.is ⟨gen, n, done, st, out⟩ with
  | true => exact rbytes_is gen n done st out hm hs ho w
  | false =>
    have HI := Lib.hid (fun W => ris_any ⟨gen, n, done, st, out⟩ W)
    rw [hm] at HI
    have HB := Lib.hid (show Below w.heap.size w (w.alloc (.cells #[.int .i64 gen, .int .i64 n, .bool done, .int .i64 st, .string out] 35)) from (Below.refl _ _).alloc (Nat.le_refl _) _)
    show Calls Tryz.prog 28 #[.agg #[.int .i64 gen, .int .i64 n, .bool done, .int .i64 st, .string out]] w _
    clear hm hs ho
    go_enter Tryz.func28, Tryz.ntmps28
    go_wp2_with fail
    refine (HI.out _).mono ?_
    rintro e w1 ⟨rfl, hb1⟩
    have HB1 := Lib.hid (HB.out.trans (hb1.mono HB.out.size))
    clear hb1
    go_wp2_with fail
    go_ret
    exact ⟨_, rfl, NetMem.Own.nil _ _, HB1.out⟩
/-- .. its slice written out. -/
theorem rbytes_q (m : Mk) (hs : I64 m.st) (ho : m.out.size ≤ 900000) (w : World) :
    Calls Tryz.prog 28 #[m.v] w fun e w' => ∃ p c, e = .returned (.slice p m.bytes.length c) ∧ NetMem.Own w' w.heap.size (.slice p m.bytes.length c) m.bytes ∧ Below w.heap.size w w' :=
  (rbytes_any m hs ho w).mono fun e w' ⟨v, he, ho, hb⟩ => by
    obtain ⟨p, c, hv, -⟩ := id ho.row
    subst hv
    exact ⟨p, c, he, ho, hb⟩
end Go.Proofs.YtilplpjdbkipoaaGreatDoor

namespace Go.Proofs.YtilplpjdbkipoaaGreatDoor
open Go Go.RowKit NetMath NetMem MarkMath SpanMath

/-- Another Reader beside a call that began at w. -/
def RrS (B r : Nat) (w w' : World) (l : List UInt8) : Prop := Below B w w' ∧ NetP.Rd 97 w' r l
theorem RrS.step {B r : Nat} {w w1 w2 : World} {l l' : List UInt8} (h : RrS B r w w1 l) (hB : B ≤ w.heap.size) (hr : B ≤ r) (hrd : NetP.Rd 97 w2 r l') (hk : NetP.Kept r w1 w2) : RrS B r w w2 l' :=
  ⟨h.1.trans (hk.below (Nat.le_trans hB h.1.size) hr), hrd⟩
/-- What the last test of Read meets. -/
def RegS (w : World) (q : Nat) (m : Mk) (v : Value) (l : List UInt8) (W : World) : Prop :=
  W.heap[q]? = some (.cells #[.int .i64 m.gen, .int .i64 m.n, .bool m.done, .int .i64 m.st, .string m.out] 35) ∧ Row W v l ∧ Below w.heap.size w W ∧ W.heap[w.heap.size]? = some (.cells #[.int .i64 0, .int .i64 0, .bool false, .int .i64 0, .string ⟨#[]⟩] 35)
theorem RegS.below {w : World} {q : Nat} {m : Mk} {v : Value} {l : List UInt8} {W W' : World} (h : RegS w q m v l W) (hb : Below W.heap.size W W') : RegS w q m v l W' :=
  ⟨(hb.block q (Array.getElem?_eq_some_iff.1 h.1).1).trans h.1, h.2.1.below hb, h.2.2.1.trans (hb.mono h.2.2.1.size), (hb.block _ (Array.getElem?_eq_some_iff.1 h.2.2.2).1).trans h.2.2.2⟩
theorem RegS.held {w : World} {q : Nat} {gen n : Int} {done : Bool} {st : Int} {out : ByteArray} {v : Value} {l : List UInt8} {W : World} (h : RegS w q ⟨gen, n, done, st, out⟩ v l W) {s : ByteArray} (hs : (⟨l.toArray⟩ : ByteArray) = s) :
    (W.cell? ⟨q, 0, none⟩ = some (.int .i64 gen) ∧ W.cell? ⟨q, 1, none⟩ = some (.int .i64 n) ∧ W.cell? ⟨q, 2, none⟩ = some (.bool done) ∧ W.cell? ⟨q, 3, none⟩ = some (.int .i64 st) ∧ W.cell? ⟨q, 4, none⟩ = some (.string out)) ∧ (convert 56 9 v).run Tryz.prog W = .ok (.string s) W := by
  have := conv_any h.2.1
  rw [hs] at this
  exact ⟨five_cells h.1, this⟩

section
variable {P : Program} {ops : Array Oper} {Q : Exit → Act → World → Prop} {md : Region.Mode} {S : World → Prop}
/-- An operation that is wanted, and reads only, is taken first: what it leaves stands in its slot. -/
theorem takeW {i k : Nat} {oi : Oper} {v : Value} {fuel : Nat} {listed : Array Bool} {a : Act} {w : World} (hi : ops[i]? = some oi) (hk : oi.dst = some k)
    (hs : Region.noSelect ops = true) (hf : Region.free md ops listed i = true) (hr : (Region.ready md ops listed).contains i = true)
    (hQ : ∀ c a w, Q (.panic c) (a.put oi.dst v) w → Q (.panic c) a w) (hw : Region.wanted oi (yielded ops a.tmps) = true)
    (hy : ∀ w, S w → (execOp a.eval oi).run P w = .ok (.value v) w) (hS : S w)
    (h : wpAnyH P md ops Q S fuel (listed.setIfInBounds i true) { a with tmps := a.tmps.setIfInBounds k v } w) : wpAnyH P md ops Q S (fuel + 1) listed a w :=
  wpAnyH_take hi hs hf hr hQ (Or.inl ⟨hw, hy⟩) hS (by rw [hk]; exact h)
/-- An operation that is not wanted is passed by. -/
theorem takeN {i k : Nat} {oi : Oper} {fuel : Nat} {listed : Array Bool} {a : Act} {w : World} (hi : ops[i]? = some oi) (hk : oi.dst = some k)
    (hs : Region.noSelect ops = true) (hf : Region.free md ops listed i = true) (hr : (Region.ready md ops listed).contains i = true)
    (hQ : ∀ c a w, Q (.panic c) (a.put oi.dst undef) w → Q (.panic c) a w) (hw : Region.wanted oi (yielded ops a.tmps) = false) (hS : S w)
    (h : wpAnyH P md ops Q S fuel (listed.setIfInBounds i true) { a with tmps := a.tmps.setIfInBounds k undef } w) : wpAnyH P md ops Q S (fuel + 1) listed a w :=
  wpAnyH_take hi hs hf hr hQ (Or.inr ⟨hw, rfl⟩) hS (by rw [hk]; exact h)
end

set_option maxHeartbeats 4000000 in
set_option maxRecDepth 100000 in
theorem rread_any (p : Option Addr) (c : Nat) (l : List UInt8) (hl : l.length ≤ 900000) (w : World) (h : Row w (.slice p l.length c) l) :
    Calls Tryz.prog 37 #[.slice p l.length c] w fun e w' => e = .returned (.tuple #[(readV l).v, .bool (readB l)]) ∧ Below w.heap.size w w' := by
  obtain ⟨l1, e1⟩ : ∃ l1, l1 = rest1 l := ⟨_, rfl⟩
  obtain ⟨l2, e2⟩ : ∃ l2, l2 = rest2 l := ⟨_, rfl⟩
  obtain ⟨l3, e3⟩ : ∃ l3, l3 = rest3 l := ⟨_, rfl⟩
  have e1' : numRest l = l1 := e1.symm
  have e2' : numRest l1 = l2 := by rw [e1]; exact e2.symm
  have e3' : numRest l2 = l3 := by rw [e2]; exact e3.symm
  have k1 := numRest_le l
  have k2 := numRest_le l1
  have k3 := numRest_le l2
  rw [e1'] at k1
  rw [e2'] at k2
  rw [e3'] at k3
  have hfit := readM_fits l (by omega)
  have hof : (readM l).out.size ≤ 900000 := by
    show (textV (rest3 l)).toArray.size ≤ 900000
    rw [List.size_toArray]
    exact Nat.le_trans (text_rest l) hl
  obtain ⟨n0, hn0⟩ : ∃ n0, n0 = numV l := ⟨_, rfl⟩
  obtain ⟨n1, hn1⟩ : ∃ n1, n1 = numV l1 := ⟨_, rfl⟩
  obtain ⟨n2, hn2⟩ : ∃ n2, n2 = numV l2 := ⟨_, rfl⟩
  obtain ⟨s3, hs3⟩ : ∃ s3 : ByteArray, s3 = ⟨(textV l3).toArray⟩ := ⟨_, rfl⟩
  obtain ⟨b0, hb0⟩ : ∃ b0, b0 = numOk l := ⟨_, rfl⟩
  obtain ⟨b1, hb1⟩ : ∃ b1, b1 = numOk l1 := ⟨_, rfl⟩
  obtain ⟨b2, hb2⟩ : ∃ b2, b2 = numOk l2 := ⟨_, rfl⟩
  obtain ⟨b3, hb3⟩ : ∃ b3, b3 = textOk l3 := ⟨_, rfl⟩
  have hme : readM l = ⟨0, n0, n1 == 1, n2, s3⟩ := by
    unfold readM
    rw [← e1, ← e2, ← e3, hn0, hn1, hn2, hs3]
  have hoe : readOk l = (b0 && (b1 && (b2 && b3))) := by
    unfold readOk
    rw [← e1, ← e2, ← e3, hb0, hb1, hb2, hb3]
  obtain ⟨m, hm⟩ : ∃ m, m = readM l := ⟨_, rfl⟩
  rw [← hm] at hfit hof hme
  obtain ⟨L, hL⟩ : ∃ L, L = m.bytes := ⟨_, rfl⟩
  obtain ⟨is, his⟩ : ∃ is, is = m.is := ⟨_, rfl⟩
  have HI := Lib.hid (fun W => ris_any m W)
  have HB := Lib.hid (fun W => rbytes_q m hfit.st hof W)
  rw [← his] at HI
  rw [← hL] at HB
  have HM := Lib.hid (show readB l = ((b0 && (b1 && (b2 && b3))) && (is && decide (L = l))) ∧ (readB l = true → readV l = m) ∧ (readB l = false → readV l = Mk.none) from by
    refine ⟨?_, fun e => by unfold readV; rw [if_pos e, hm], fun e => by unfold readV; rw [e]; rfl⟩
    rw [← hoe, his, hL]
    cases hr : m.is with
    | true => unfold readB; rw [← hm]; rfl
    | false =>
      have hLn : m.bytes = [] := by unfold Mk.bytes; rw [hr]; rfl
      unfold readB
      rw [← hm, hLn]
      cases l with
      | nil => rw [readOk_nil]; rfl
      | cons x y => simp)
  obtain ⟨sl, hsl⟩ : ∃ sl : ByteArray, (⟨l.toArray⟩ : ByteArray) = sl := ⟨_, rfl⟩
  obtain ⟨sL, hsL⟩ : ∃ sL : ByteArray, (⟨L.toArray⟩ : ByteArray) = sL := ⟨_, rfl⟩
  rw [hme] at HI HB
  simp only [Mk.v] at HI HB
  have HV := Lib.hid (And.intro hme (And.intro hsl hsL))
  have hr0 : NetP.Rd 97 ((w.alloc (.cells #[.int .i64 0, .int .i64 0, .bool false, .int .i64 0, .string ⟨#[]⟩] 35)).alloc (.cells #[.slice p l.length c] 97)) (w.heap.size + 1) l :=
    ⟨_, by have := heap_alloc_new (w.alloc (.cells #[.int .i64 0, .int .i64 0, .bool false, .int .i64 0, .string ⟨#[]⟩] 35)) (.cells #[.slice p l.length c] 97); simpa using this, (h.below ((Below.refl _ _).alloc (Nat.le_refl _) _)).below ((Below.refl _ _).alloc (Nat.le_refl _) _)⟩
  have HS0 := Lib.hid (show RrS (w.heap.size + 1) (w.heap.size + 1) (w.alloc (.cells #[.int .i64 0, .int .i64 0, .bool false, .int .i64 0, .string ⟨#[]⟩] 35)) ((w.alloc (.cells #[.int .i64 0, .int .i64 0, .bool false, .int .i64 0, .string ⟨#[]⟩] 35)).alloc (.cells #[.slice p l.length c] 97)) l from
    ⟨(Below.refl _ _).alloc (by simp) _, hr0⟩)
  have HL := Lib.hid (show l.length ≤ 140737488355328 ∧ l1.length ≤ 140737488355328 ∧ l2.length ≤ 140737488355328 ∧ l3.length ≤ 140737488355328 from ⟨by omega, by omega, by omega, by omega⟩)
  have HE := Lib.hid (And.intro e1' (And.intro e2' (And.intro e3' hs3)))
  have HN := Lib.hid (And.intro hn0 (And.intro hn1 (And.intro hn2 (And.intro hb0 (And.intro hb1 (And.intro hb2 hb3))))))
  have H0 := Lib.hid h
  have hsz : ∀ B : Nat, B + 1 ≤ (w.alloc (.cells #[.int .i64 0, .int .i64 0, .bool false, .int .i64 0, .string ⟨#[]⟩] 35)).heap.size ↔ B + 1 ≤ w.heap.size + 1 := fun B => by simp
  have HSZ := Lib.hid ((hsz w.heap.size).2 (Nat.le_refl _))
  clear e1 e2 e3 e1' e2' e3' k1 k2 k3 hn0 hn1 hn2 hs3 hb0 hb1 hb2 hb3 h hl hfit hof hme hoe hm hL his hsl hsL hr0 hsz
  go_enter Tryz.func37, Tryz.ntmps37
  go_wp2_with fail
  refine (NetP.refr_any (w.heap.size + 1) l HL.out.1 _ HS0.out.2).mono ?_
  rintro e w1 ⟨rfl, hr1, hk1⟩
  rw [HE.out.1] at hr1
  rw [← HN.out.1, ← HN.out.2.2.2.1]
  have HS1 := Lib.hid (HS0.out.step HSZ.out (Nat.le_refl _) hr1 hk1)
  clear hr1 hk1
  go_wp2_with fail
  refine (NetP.refr_any (w.heap.size + 1) l1 HL.out.2.1 _ HS1.out.2).mono ?_
  rintro e w2 ⟨rfl, hr1, hk1⟩
  rw [HE.out.2.1] at hr1
  rw [← HN.out.2.1, ← HN.out.2.2.2.2.1]
  have HS2 := Lib.hid (HS1.out.step HSZ.out (Nat.le_refl _) hr1 hk1)
  clear hr1 hk1
  go_wp2_with fail
  refine (NetP.refr_any (w.heap.size + 1) l2 HL.out.2.2.1 _ HS2.out.2).mono ?_
  rintro e w3 ⟨rfl, hr1, hk1⟩
  rw [HE.out.2.2.1] at hr1
  rw [← HN.out.2.2.1, ← HN.out.2.2.2.2.2.1]
  have HS3 := Lib.hid (HS2.out.step HSZ.out (Nat.le_refl _) hr1 hk1)
  clear hr1 hk1
  go_wp2_with fail
  refine (NetP.reft_any (w.heap.size + 1) l3 HL.out.2.2.2 _ HS3.out.2).mono ?_
  rintro e w4 ⟨rfl, hr1, hk1⟩
  rw [← HE.out.2.2.2, ← HN.out.2.2.2.2.2.2]
  have HS4 := Lib.hid (HS3.out.step HSZ.out (Nat.le_refl _) hr1 hk1)
  clear hr1 hk1
  have hA0 : Below w.heap.size w (w.alloc (.cells #[.int .i64 0, .int .i64 0, .bool false, .int .i64 0, .string ⟨#[]⟩] 35)) := (Below.refl _ _).alloc (Nat.le_refl _) _
  have hb4 : Below w.heap.size w w4 := hA0.trans (HS4.out.1.mono (Nat.le_succ _))
  have hz4 : w4.heap[w.heap.size]? = some (.cells #[.int .i64 0, .int .i64 0, .bool false, .int .i64 0, .string ⟨#[]⟩] 35) := (HS4.out.1.block _ (Nat.lt_succ_self _)).trans (heap_alloc_new w _)
  have ham : Below w4.heap.size w4 (w4.alloc (.cells #[.int .i64 0, .int .i64 n0, .bool (n1 == 1), .int .i64 n2, .string s3] 35)) := (Below.refl _ _).alloc (Nat.le_refl _) _
  have HR := Lib.hid (show RegS w w4.heap.size ⟨0, n0, n1 == 1, n2, s3⟩ (.slice p l.length c) l (w4.alloc (.cells #[.int .i64 0, .int .i64 n0, .bool (n1 == 1), .int .i64 n2, .string s3] 35)).drew from
    RegS.below ⟨heap_alloc_new w4 _, H0.out.below (hb4.trans (ham.mono hb4.size)), hb4.trans (ham.mono hb4.size), (ham.block _ (Array.getElem?_eq_some_iff.1 hz4).1).trans hz4⟩ (below_drew _ _))
  have HZ4 := Lib.hid (And.intro hb4 hz4)
  clear hA0 hb4 hz4 ham HS1 HS2 HS3
  have hlt : w.heap.size < w4.heap.size := (Array.getElem?_eq_some_iff.1 HZ4.out.2).1
  have no : (b0 && (b1 && (b2 && b3))) = false → readB l = false := fun e => by rw [HM.out.1, e]; rfl
  have HNO := Lib.hid no
  clear no
  cases hb : (b0 && (b1 && (b2 && b3))) with
  | false =>
    have e1 := HNO.out hb
    have HE1 := Lib.hid (And.intro (HM.out.2.2 e1) e1)
    obtain ⟨c0, c1, c2, c3, c4⟩ := five_cells HZ4.out.2
    have fz := five_free HZ4.out.2
    have f0 := fz 0
    have f1 := fz 1
    have f2 := fz 2
    have f3 := fz 3
    have f4 := fz 4
    have ne0 := World.new_ne w4 _ c0
    have ne1 := World.new_ne w4 _ c1
    have ne2 := World.new_ne w4 _ c2
    have ne3 := World.new_ne w4 _ c3
    have ne4 := World.new_ne w4 _ c4
    clear fz e1
    rcases b0 with _ | _
    · clear hb
      go_wp2_with fail
      go_quiet (fail)
      go_wp2_with fail
      have hz5 : ((w4.alloc (.cells #[.int .i64 0, .int .i64 n0, .bool (n1 == 1), .int .i64 n2, .string s3] 35)).drewN nq).heap[w.heap.size]? = some (.cells #[.int .i64 0, .int .i64 0, .bool false, .int .i64 0, .string ⟨#[]⟩] 35) := (Below.heap_alloc w4 _ _ hlt).trans HZ4.out.2
      have hld := load_mark (five_put hz5 (.int .i64 0) (.int .i64 0) (.bool false) (.int .i64 0) (.string ⟨#[]⟩))
      have hb5 : Below w.heap.size w ((w4.alloc (.cells #[.int .i64 0, .int .i64 n0, .bool (n1 == 1), .int .i64 n2, .string s3] 35)).drewN nq) := (HZ4.out.1.alloc HZ4.out.1.size _).trans (below_drewN _ _ _)
      (try simp only [Exit.inBlock, Exit.then])
      refine bodyPost_ret (v := .tuple #[.agg #[.int .i64 0, .int .i64 0, .bool false, .int .i64 0, .string ⟨#[]⟩], .bool false]) ?_ rfl ⟨by rw [HE1.out.1, HE1.out.2]; rfl, five_set hb5 (Nat.le_refl _) _ _ _ _ _⟩
      rw [results_cell_tmp rfl]
      simp [asAddr, Result.andThen, hld]
    · rcases b1 with _ | _
      · clear hb
        go_wp2_with fail
        go_quiet (fail)
        go_wp2_with fail
        have hz5 : ((w4.alloc (.cells #[.int .i64 0, .int .i64 n0, .bool (n1 == 1), .int .i64 n2, .string s3] 35)).drewN nq).heap[w.heap.size]? = some (.cells #[.int .i64 0, .int .i64 0, .bool false, .int .i64 0, .string ⟨#[]⟩] 35) := (Below.heap_alloc w4 _ _ hlt).trans HZ4.out.2
        have hld := load_mark (five_put hz5 (.int .i64 0) (.int .i64 0) (.bool false) (.int .i64 0) (.string ⟨#[]⟩))
        have hb5 : Below w.heap.size w ((w4.alloc (.cells #[.int .i64 0, .int .i64 n0, .bool (n1 == 1), .int .i64 n2, .string s3] 35)).drewN nq) := (HZ4.out.1.alloc HZ4.out.1.size _).trans (below_drewN _ _ _)
        (try simp only [Exit.inBlock, Exit.then])
        refine bodyPost_ret (v := .tuple #[.agg #[.int .i64 0, .int .i64 0, .bool false, .int .i64 0, .string ⟨#[]⟩], .bool false]) ?_ rfl ⟨by rw [HE1.out.1, HE1.out.2]; rfl, five_set hb5 (Nat.le_refl _) _ _ _ _ _⟩
        rw [results_cell_tmp rfl]
        simp [asAddr, Result.andThen, hld]
      · rcases b2 with _ | _
        · clear hb
          go_wp2_with fail
          go_quiet (fail)
          go_wp2_with fail
          have hz5 : ((w4.alloc (.cells #[.int .i64 0, .int .i64 n0, .bool (n1 == 1), .int .i64 n2, .string s3] 35)).drewN nq).heap[w.heap.size]? = some (.cells #[.int .i64 0, .int .i64 0, .bool false, .int .i64 0, .string ⟨#[]⟩] 35) := (Below.heap_alloc w4 _ _ hlt).trans HZ4.out.2
          have hld := load_mark (five_put hz5 (.int .i64 0) (.int .i64 0) (.bool false) (.int .i64 0) (.string ⟨#[]⟩))
          have hb5 : Below w.heap.size w ((w4.alloc (.cells #[.int .i64 0, .int .i64 n0, .bool (n1 == 1), .int .i64 n2, .string s3] 35)).drewN nq) := (HZ4.out.1.alloc HZ4.out.1.size _).trans (below_drewN _ _ _)
          (try simp only [Exit.inBlock, Exit.then])
          refine bodyPost_ret (v := .tuple #[.agg #[.int .i64 0, .int .i64 0, .bool false, .int .i64 0, .string ⟨#[]⟩], .bool false]) ?_ rfl ⟨by rw [HE1.out.1, HE1.out.2]; rfl, five_set hb5 (Nat.le_refl _) _ _ _ _ _⟩
          rw [results_cell_tmp rfl]
          simp [asAddr, Result.andThen, hld]
        · rcases b3 with _ | _
          · clear hb
            go_wp2_with fail
            go_quiet (fail)
            go_wp2_with fail
            have hz5 : ((w4.alloc (.cells #[.int .i64 0, .int .i64 n0, .bool (n1 == 1), .int .i64 n2, .string s3] 35)).drewN nq).heap[w.heap.size]? = some (.cells #[.int .i64 0, .int .i64 0, .bool false, .int .i64 0, .string ⟨#[]⟩] 35) := (Below.heap_alloc w4 _ _ hlt).trans HZ4.out.2
            have hld := load_mark (five_put hz5 (.int .i64 0) (.int .i64 0) (.bool false) (.int .i64 0) (.string ⟨#[]⟩))
            have hb5 : Below w.heap.size w ((w4.alloc (.cells #[.int .i64 0, .int .i64 n0, .bool (n1 == 1), .int .i64 n2, .string s3] 35)).drewN nq) := (HZ4.out.1.alloc HZ4.out.1.size _).trans (below_drewN _ _ _)
            (try simp only [Exit.inBlock, Exit.then])
            refine bodyPost_ret (v := .tuple #[.agg #[.int .i64 0, .int .i64 0, .bool false, .int .i64 0, .string ⟨#[]⟩], .bool false]) ?_ rfl ⟨by rw [HE1.out.1, HE1.out.2]; rfl, five_set hb5 (Nat.le_refl _) _ _ _ _ _⟩
            rw [results_cell_tmp rfl]
            simp [asAddr, Result.andThen, hld]
          · simp at hb
  | true =>
    have hbb : b0 = true ∧ b1 = true ∧ b2 = true ∧ b3 = true := by simpa using hb
    obtain ⟨rfl, rfl, rfl, rfl⟩ := hbb
    clear hb HNO
    have hrs := HR.out.held HV.out.2.1
    have HRS := Lib.hid hrs
    clear hrs
    cases is with
    | false =>
      have HE1 := Lib.hid (show readV l = Mk.none ∧ readB l = false from ⟨HM.out.2.2 (by rw [HM.out.1]; rfl), by rw [HM.out.1]; rfl⟩)
      go_wp2_with fail
      refine wp_region_held_drew (S := (fun W => (W.cell? ⟨w4.heap.size, 0, none⟩ = some (.int .i64 0) ∧ W.cell? ⟨w4.heap.size, 1, none⟩ = some (.int .i64 n0) ∧ W.cell? ⟨w4.heap.size, 2, none⟩ = some (.bool (n1 == 1)) ∧ W.cell? ⟨w4.heap.size, 3, none⟩ = some (.int .i64 n2) ∧ W.cell? ⟨w4.heap.size, 4, none⟩ = some (.string s3)) ∧ (convert 56 9 (.slice p l.length c)).run Tryz.prog W = .ok (.string sl) W)) (by kernel_rfl) ?_ (fun hHeld => ?_)
      · exact HRS.out
      refine takeW (i := 0) (k := 44) (v := ?_) rfl (by kernel_rfl) (by kernel_rfl) (by kernel_rfl) (by kernel_rfl) (fun _ _ _ h => h) (by rfl) ?_ (by assumption) ?_
      rotate_left
      · intro w hSw; (try dsimp only at hSw); go_simp <;> (with_reducible rfl)
      simp only [List.setIfInBounds_toArray, List.set_cons_zero, List.set_cons_succ]
      refine takeW (i := 1) (k := 45) (v := ?_) rfl (by kernel_rfl) (by kernel_rfl) (by kernel_rfl) (by kernel_rfl) (fun _ _ _ h => h) (by rfl) ?_ (by assumption) ?_
      rotate_left
      · intro w hSw; (try dsimp only at hSw); go_simp <;> (with_reducible rfl)
      simp only [List.setIfInBounds_toArray, List.set_cons_zero, List.set_cons_succ]
      refine takeW (i := 2) (k := 46) (v := ?_) rfl (by kernel_rfl) (by kernel_rfl) (by kernel_rfl) (by kernel_rfl) (fun _ _ _ h => h) (by rfl) ?_ (by assumption) ?_
      rotate_left
      · intro w hSw; (try dsimp only at hSw); go_simp <;> (with_reducible rfl)
      simp only [List.setIfInBounds_toArray, List.set_cons_zero, List.set_cons_succ]
      refine takeW (i := 3) (k := 47) (v := ?_) rfl (by kernel_rfl) (by kernel_rfl) (by kernel_rfl) (by kernel_rfl) (fun _ _ _ h => h) (by rfl) ?_ (by assumption) ?_
      rotate_left
      · intro w hSw; (try dsimp only at hSw); go_simp <;> (with_reducible rfl)
      simp only [List.setIfInBounds_toArray, List.set_cons_zero, List.set_cons_succ]
      refine takeW (i := 4) (k := 48) (v := ?_) rfl (by kernel_rfl) (by kernel_rfl) (by kernel_rfl) (by kernel_rfl) (fun _ _ _ h => h) (by rfl) ?_ (by assumption) ?_
      rotate_left
      · intro w hSw; (try dsimp only at hSw); go_simp <;> (with_reducible rfl)
      simp only [List.setIfInBounds_toArray, List.set_cons_zero, List.set_cons_succ]
      refine takeW (i := 5) (k := 49) (v := ?_) rfl (by kernel_rfl) (by kernel_rfl) (by kernel_rfl) (by kernel_rfl) (fun _ _ _ h => h) (by rfl) ?_ (by assumption) ?_
      rotate_left
      · intro w hSw; (try dsimp only at hSw); go_simp <;> (with_reducible rfl)
      simp only [List.setIfInBounds_toArray, List.set_cons_zero, List.set_cons_succ]
      refine takeW (i := 6) (k := 50) (v := ?_) rfl (by kernel_rfl) (by kernel_rfl) (by kernel_rfl) (by kernel_rfl) (fun _ _ _ h => h) (by rfl) ?_ (by assumption) ?_
      rotate_left
      · intro w hSw; (try dsimp only at hSw); go_simp <;> (with_reducible rfl)
      simp only [List.setIfInBounds_toArray, List.set_cons_zero, List.set_cons_succ]
      refine takeW (i := 7) (k := 51) (v := ?_) rfl (by kernel_rfl) (by kernel_rfl) (by kernel_rfl) (by kernel_rfl) (fun _ _ _ h => h) (by rfl) ?_ (by assumption) ?_
      rotate_left
      · intro w hSw; (try dsimp only at hSw); go_simp <;> (with_reducible rfl)
      simp only [List.setIfInBounds_toArray, List.set_cons_zero, List.set_cons_succ]
      refine takeW (i := 8) (k := 52) (v := ?_) rfl (by kernel_rfl) (by kernel_rfl) (by kernel_rfl) (by kernel_rfl) (fun _ _ _ h => h) (by rfl) ?_ (by assumption) ?_
      rotate_left
      · intro w hSw; (try dsimp only at hSw); go_simp <;> (with_reducible rfl)
      simp only [List.setIfInBounds_toArray, List.set_cons_zero, List.set_cons_succ]
      refine takeW (i := 9) (k := 53) (v := ?_) rfl (by kernel_rfl) (by kernel_rfl) (by kernel_rfl) (by kernel_rfl) (fun _ _ _ h => h) (by rfl) ?_ (by assumption) ?_
      rotate_left
      · intro w hSw; (try dsimp only at hSw); go_simp <;> (with_reducible rfl)
      simp only [List.setIfInBounds_toArray, List.set_cons_zero, List.set_cons_succ]
      refine takeW (i := 10) (k := 54) (v := ?_) rfl (by kernel_rfl) (by kernel_rfl) (by kernel_rfl) (by kernel_rfl) (fun _ _ _ h => h) (by rfl) ?_ (by assumption) ?_
      rotate_left
      · intro w hSw; (try dsimp only at hSw); go_simp <;> (with_reducible rfl)
      simp only [List.setIfInBounds_toArray, List.set_cons_zero, List.set_cons_succ]
      refine takeW (i := 11) (k := 55) (v := ?_) rfl (by kernel_rfl) (by kernel_rfl) (by kernel_rfl) (by kernel_rfl) (fun _ _ _ h => h) (by rfl) ?_ (by assumption) ?_
      rotate_left
      · intro w hSw; (try dsimp only at hSw); go_simp <;> (with_reducible rfl)
      simp only [List.setIfInBounds_toArray, List.set_cons_zero, List.set_cons_succ]
      refine takeW (i := 12) (k := 56) (v := ?_) rfl (by kernel_rfl) (by kernel_rfl) (by kernel_rfl) (by kernel_rfl) (fun _ _ _ h => h) (by rfl) ?_ (by assumption) ?_
      rotate_left
      · intro w hSw; (try dsimp only at hSw); go_simp <;> (with_reducible rfl)
      simp only [List.setIfInBounds_toArray, List.set_cons_zero, List.set_cons_succ]
      refine takeW (i := 13) (k := 57) (v := ?_) rfl (by kernel_rfl) (by kernel_rfl) (by kernel_rfl) (by kernel_rfl) (fun _ _ _ h => h) (by rfl) ?_ (by assumption) ?_
      rotate_left
      · intro w hSw; (try dsimp only at hSw); go_simp <;> (with_reducible rfl)
      simp only [List.setIfInBounds_toArray, List.set_cons_zero, List.set_cons_succ]
      refine takeW (i := 14) (k := 58) (v := ?_) rfl (by kernel_rfl) (by kernel_rfl) (by kernel_rfl) (by kernel_rfl) (fun _ _ _ h => h) (by rfl) ?_ (by assumption) ?_
      rotate_left
      · intro w hSw; (try dsimp only at hSw); go_simp <;> (with_reducible rfl)
      simp only [List.setIfInBounds_toArray, List.set_cons_zero, List.set_cons_succ]
      refine takeW (i := 15) (k := 59) (v := ?_) rfl (by kernel_rfl) (by kernel_rfl) (by kernel_rfl) (by kernel_rfl) (fun _ _ _ h => h) (by rfl) ?_ (by assumption) ?_
      rotate_left
      · intro w hSw; (try dsimp only at hSw); go_simp <;> (with_reducible rfl)
      simp only [List.setIfInBounds_toArray, List.set_cons_zero, List.set_cons_succ]
      refine wpAnyH_ready (rs := [16]) (by kernel_rfl) (by simp) ?_
      refine AllReadyH.cons rfl (fun K hK => ?_) ?_
      rotate_left
      · exact AllReadyH.nil
      go_simp
      go_wp2_with ((go_at_call 27; (with_reducible refine (HI.out _).mono ?_); rintro e w5 ⟨rfl, hb5⟩; have hs5 := (HR.out.below hb5).held HV.out.2.1; have H5 := Lib.hid (HR.out.below hb5); clear hb5))
      refine hK.out _ _ ?_ (fun hHeld => ?_)
      · exact hs5
      clear hK K
      refine takeW (i := 17) (k := 61) (v := ?_) rfl (by kernel_rfl) (by kernel_rfl) (by kernel_rfl) (by kernel_rfl) (fun _ _ _ h => h) (by rfl) ?_ (by assumption) ?_
      rotate_left
      · intro w hSw; (try dsimp only at hSw); go_simp <;> (with_reducible rfl)
      simp only [List.setIfInBounds_toArray, List.set_cons_zero, List.set_cons_succ]
      refine takeW (i := 18) (k := 62) (v := ?_) rfl (by kernel_rfl) (by kernel_rfl) (by kernel_rfl) (by kernel_rfl) (fun _ _ _ h => h) (by rfl) ?_ (by assumption) ?_
      rotate_left
      · intro w hSw; (try dsimp only at hSw); go_simp <;> (with_reducible rfl)
      simp only [List.setIfInBounds_toArray, List.set_cons_zero, List.set_cons_succ]
      refine takeW (i := 19) (k := 63) (v := ?_) rfl (by kernel_rfl) (by kernel_rfl) (by kernel_rfl) (by kernel_rfl) (fun _ _ _ h => h) (by rfl) ?_ (by assumption) ?_
      rotate_left
      · intro w hSw; (try dsimp only at hSw); go_simp <;> (with_reducible rfl)
      simp only [List.setIfInBounds_toArray, List.set_cons_zero, List.set_cons_succ]
      refine takeN (i := 20) (k := 64) rfl (by kernel_rfl) (by kernel_rfl) (by kernel_rfl) (by kernel_rfl) (fun _ _ _ h => h) (by rfl) (by assumption) ?_
      simp only [List.setIfInBounds_toArray, List.set_cons_zero, List.set_cons_succ]
      refine takeN (i := 21) (k := 65) rfl (by kernel_rfl) (by kernel_rfl) (by kernel_rfl) (by kernel_rfl) (fun _ _ _ h => h) (by rfl) (by assumption) ?_
      simp only [List.setIfInBounds_toArray, List.set_cons_zero, List.set_cons_succ]
      refine takeN (i := 22) (k := 66) rfl (by kernel_rfl) (by kernel_rfl) (by kernel_rfl) (by kernel_rfl) (fun _ _ _ h => h) (by rfl) (by assumption) ?_
      simp only [List.setIfInBounds_toArray, List.set_cons_zero, List.set_cons_succ]
      refine takeN (i := 23) (k := 67) rfl (by kernel_rfl) (by kernel_rfl) (by kernel_rfl) (by kernel_rfl) (fun _ _ _ h => h) (by rfl) (by assumption) ?_
      simp only [List.setIfInBounds_toArray, List.set_cons_zero, List.set_cons_succ]
      refine takeN (i := 24) (k := 68) rfl (by kernel_rfl) (by kernel_rfl) (by kernel_rfl) (by kernel_rfl) (fun _ _ _ h => h) (by rfl) (by assumption) ?_
      simp only [List.setIfInBounds_toArray, List.set_cons_zero, List.set_cons_succ]
      refine takeN (i := 25) (k := 69) rfl (by kernel_rfl) (by kernel_rfl) (by kernel_rfl) (by kernel_rfl) (fun _ _ _ h => h) (by rfl) (by assumption) ?_
      simp only [List.setIfInBounds_toArray, List.set_cons_zero, List.set_cons_succ]
      refine takeW (i := 26) (k := 70) (v := ?_) rfl (by kernel_rfl) (by kernel_rfl) (by kernel_rfl) (by kernel_rfl) (fun _ _ _ h => h) (by rfl) ?_ (by assumption) ?_
      rotate_left
      · intro w hSw; (try dsimp only at hSw); go_simp <;> (with_reducible rfl)
      simp only [List.setIfInBounds_toArray, List.set_cons_zero, List.set_cons_succ]
      refine wpAnyH_done (by kernel_rfl) ?_ _
      obtain ⟨c0, c1, c2, c3, c4⟩ := five_cells H5.out.2.2.2
      have fz := five_free H5.out.2.2.2
      have f0 := fz 0
      have f1 := fz 1
      have f2 := fz 2
      have f3 := fz 3
      have f4 := fz 4
      clear fz hs5
      go_wp2_with fail
      have hld := load_mark (five_put H5.out.2.2.2 (.int .i64 0) (.int .i64 0) (.bool false) (.int .i64 0) (.string ⟨#[]⟩))
      (try simp only [Exit.inBlock, Exit.then])
      refine bodyPost_ret (v := .tuple #[.agg #[.int .i64 0, .int .i64 0, .bool false, .int .i64 0, .string ⟨#[]⟩], .bool false]) ?_ rfl ⟨by rw [HE1.out.1, HE1.out.2]; rfl, five_set H5.out.2.2.1 (Nat.le_refl _) _ _ _ _ _⟩
      rw [results_cell_tmp rfl]
      simp [asAddr, Result.andThen, hld]
    | true =>
      by_cases hq : L = l
      · have HE1 := Lib.hid (show readV l = ⟨0, n0, n1 == 1, n2, s3⟩ ∧ readB l = true from ⟨(HM.out.2.1 (by rw [HM.out.1]; simp [hq])).trans HV.out.1, by rw [HM.out.1]; simp [hq]⟩)
        have hss : sL = sl := by rw [← HV.out.2.1, ← HV.out.2.2, hq]
        subst hss
        have hbt : (sL.toList != sL.toList) = false := by simp
        clear hq
        go_wp2_with fail
        go_region_held (fun W => (W.cell? ⟨w4.heap.size, 0, none⟩ = some (.int .i64 0) ∧ W.cell? ⟨w4.heap.size, 1, none⟩ = some (.int .i64 n0) ∧ W.cell? ⟨w4.heap.size, 2, none⟩ = some (.bool (n1 == 1)) ∧ W.cell? ⟨w4.heap.size, 3, none⟩ = some (.int .i64 n2) ∧ W.cell? ⟨w4.heap.size, 4, none⟩ = some (.string s3)) ∧ (convert 56 9 (.slice p l.length c)).run Tryz.prog W = .ok (.string sL) W) (first | assumption | exact HRS.out)
          (first
            | (go_at_call 27; (with_reducible refine (HI.out _).mono ?_); rintro e w5 ⟨rfl, hb5⟩; have hs5 := (HR.out.below hb5).held HV.out.2.1; have H5 := Lib.hid (HR.out.below hb5); clear hb5)
            | (go_at_call 28; (with_reducible refine (HB.out _).mono ?_); rintro e w6 ⟨p6, c6, rfl, ho6, hb6⟩; have hs6 := (H5.out.below hb6).held HV.out.2.1; have hcv6 := conv_any ho6.row; rw [HV.out.2.2] at hcv6; have H6 := Lib.hid (H5.out.below hb6); clear hb6 ho6))
        obtain ⟨c0, c1, c2, c3, c4⟩ := five_cells H6.out.2.2.2
        have fz := five_free H6.out.2.2.2
        have f0 := fz 0
        have f1 := fz 1
        have f2 := fz 2
        have f3 := fz 3
        have f4 := fz 4
        obtain ⟨d0, d1, d2, d3, d4⟩ := five_cells H6.out.1
        clear fz hs6 hbt
        go_wp2_with fail
        have hld := load_mark (five_put H6.out.2.2.2 (.int .i64 0) (.int .i64 n0) (.bool (n1 == 1)) (.int .i64 n2) (.string s3))
        (try simp only [Exit.inBlock, Exit.then])
        refine bodyPost_ret (v := .tuple #[.agg #[.int .i64 0, .int .i64 n0, .bool (n1 == 1), .int .i64 n2, .string s3], .bool true]) ?_ rfl ⟨by rw [HE1.out.1, HE1.out.2]; rfl, five_set H6.out.2.2.1 (Nat.le_refl _) _ _ _ _ _⟩
        rw [results_cell_tmp rfl]
        simp [asAddr, Result.andThen, hld]
      · have HE1 := Lib.hid (show readV l = Mk.none ∧ readB l = false from ⟨HM.out.2.2 (by rw [HM.out.1]; simp [hq]), by rw [HM.out.1]; simp [hq]⟩)
        have hbt : (sL.toList != sl.toList) = true := by
          rw [← HV.out.2.1, ← HV.out.2.2, ByteArray.toList_eq, ByteArray.toList_eq]
          simpa using hq
        have hbt2 : (sL.toList == sl.toList) = false := by simpa using hbt
        clear hq
        go_wp2_with fail
        go_region_held (fun W => (W.cell? ⟨w4.heap.size, 0, none⟩ = some (.int .i64 0) ∧ W.cell? ⟨w4.heap.size, 1, none⟩ = some (.int .i64 n0) ∧ W.cell? ⟨w4.heap.size, 2, none⟩ = some (.bool (n1 == 1)) ∧ W.cell? ⟨w4.heap.size, 3, none⟩ = some (.int .i64 n2) ∧ W.cell? ⟨w4.heap.size, 4, none⟩ = some (.string s3)) ∧ (convert 56 9 (.slice p l.length c)).run Tryz.prog W = .ok (.string sl) W) (first | assumption | exact HRS.out)
          (first
            | (go_at_call 27; (with_reducible refine (HI.out _).mono ?_); rintro e w5 ⟨rfl, hb5⟩; have hs5 := (HR.out.below hb5).held HV.out.2.1; have H5 := Lib.hid (HR.out.below hb5); clear hb5)
            | (go_at_call 28; (with_reducible refine (HB.out _).mono ?_); rintro e w6 ⟨p6, c6, rfl, ho6, hb6⟩; have hs6 := (H5.out.below hb6).held HV.out.2.1; have hcv6 := conv_any ho6.row; rw [HV.out.2.2] at hcv6; have H6 := Lib.hid (H5.out.below hb6); clear hb6 ho6))
        obtain ⟨c0, c1, c2, c3, c4⟩ := five_cells H6.out.2.2.2
        have fz := five_free H6.out.2.2.2
        have f0 := fz 0
        have f1 := fz 1
        have f2 := fz 2
        have f3 := fz 3
        have f4 := fz 4
        clear fz hs6
        go_wp2_with fail
        have hld := load_mark (five_put H6.out.2.2.2 (.int .i64 0) (.int .i64 0) (.bool false) (.int .i64 0) (.string ⟨#[]⟩))
        (try simp only [Exit.inBlock, Exit.then])
        refine bodyPost_ret (v := .tuple #[.agg #[.int .i64 0, .int .i64 0, .bool false, .int .i64 0, .string ⟨#[]⟩], .bool false]) ?_ rfl ⟨by rw [HE1.out.1, HE1.out.2]; rfl, five_set H6.out.2.2.1 (Nat.le_refl _) _ _ _ _ _⟩
        rw [results_cell_tmp rfl]
        simp [asAddr, Result.andThen, hld]
end Go.Proofs.YtilplpjdbkipoaaGreatDoor
