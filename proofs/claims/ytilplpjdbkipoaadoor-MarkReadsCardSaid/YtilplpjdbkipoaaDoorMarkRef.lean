/-
  Proved: the statements' own package of chapter 6 tells the same marks, puts the same bytes. Conditions: the numbers fit, the text is of at most 900000 bytes.
-/
import Derived.Test.YtilplpjdbkipoaaDoorMarkRead
import Derived.Test.YtilplpjdbkipoaaDoorNetRText
namespace Go.Proofs.YtilplpjdbkipoaaDoor
open Go Go.RowKit NetMath NetMem MarkMath SpanMath

set_option maxHeartbeats 2000000 in
set_option maxRecDepth 100000 in
theorem ris_any (m : Mk) (w : World) :
    Calls Tryd.prog 11 #[m.v] w fun e w' => e = .returned (.bool m.is) ∧ Below w.heap.size w w' := by
  obtain ⟨gen, n, done, st, out⟩ := m
  show Calls Tryd.prog 11 #[.agg #[.int .i64 gen, .int .i64 n, .bool done, .int .i64 st, .string out]] w _
  have HB := Lib.hid (show Below w.heap.size w (w.alloc (.cells #[.int .i64 gen, .int .i64 n, .bool done, .int .i64 st, .string out] 25)) from (Below.refl _ _).alloc (Nat.le_refl _) _)
  cases hg : isGenB gen with
  | false =>
    have HM := Lib.hid (show Mk.is ⟨gen, n, done, st, out⟩ = false from by simp [Mk.is, hg])
    rw [HM.out]
    by_cases g0 : 0 ≤ gen
    · have g1 : ¬ gen ≤ 2147483646 := fun e => by simp [isGenB, g0, e] at hg
      clear hg
      go_enter Tryd.func11, Tryd.ntmps11
      go_wp2_with fail
      go_ret
      exact ⟨rfl, HB.out⟩
    · clear hg
      go_enter Tryd.func11, Tryd.ntmps11
      go_wp2_with fail
      go_ret
      exact ⟨rfl, HB.out⟩
  | true =>
    have hg2 : 0 ≤ gen ∧ gen ≤ 2147483646 := by simpa [isGenB] using hg
    have g0 := hg2.1
    have g1 := hg2.2
    by_cases h0 : 0 ≤ n
    · by_cases h1 : n ≤ 2147483647
      · cases done with
        | true =>
          have HM := Lib.hid (show Mk.is ⟨gen, n, true, st, out⟩ = true from by simp [Mk.is, hg, h0, h1])
          rw [HM.out]
          clear hg
          go_enter Tryd.func11, Tryd.ntmps11
          go_wp2_with fail
          go_ret
          exact ⟨rfl, HB.out⟩
        | false =>
          by_cases hs : st = 0
          · subst hs
            by_cases ho : out = noB
            · subst ho
              have HM := Lib.hid (show Mk.is ⟨gen, n, false, 0, noB⟩ = true from by simp [Mk.is, hg, h0, h1])
              rw [HM.out]
              unfold noB at *
              clear hg hg2
              go_enter Tryd.func11, Tryd.ntmps11
              go_wp2_with fail
              go_ret
              exact ⟨rfl, HB.out⟩
            · have HM := Lib.hid (show Mk.is ⟨gen, n, false, 0, out⟩ = false from by simp [Mk.is, ho])
              have ho2 := fun e => ho (out_nil e)
              rw [HM.out]
              clear ho
              clear hg hg2
              go_enter Tryd.func11, Tryd.ntmps11
              go_wp2_with fail
              go_ret
              exact ⟨rfl, HB.out⟩
          · have HM := Lib.hid (show Mk.is ⟨gen, n, false, st, out⟩ = false from by simp [Mk.is, hs])
            rw [HM.out]
            clear hg hg2
            go_enter Tryd.func11, Tryd.ntmps11
            go_wp2_with fail
            go_ret
            exact ⟨rfl, HB.out⟩
      · have HM := Lib.hid (show Mk.is ⟨gen, n, done, st, out⟩ = false from by simp [Mk.is, hg, h0, h1])
        rw [HM.out]
        clear hg
        go_enter Tryd.func11, Tryd.ntmps11
        go_wp2_with fail
        go_ret
        exact ⟨rfl, HB.out⟩
    · have HM := Lib.hid (show Mk.is ⟨gen, n, done, st, out⟩ = false from by simp [Mk.is, hg, h0])
      rw [HM.out]
      clear hg
      go_enter Tryd.func11, Tryd.ntmps11
      go_wp2_with fail
      go_ret
      exact ⟨rfl, HB.out⟩

theorem refnum_q (n : Int) (hn : I64 n) (w : World) :
    Calls Tryd.prog 28 #[.int .i64 n] w fun e w' => ∃ v, e = .returned v ∧ NetMem.Own w' w.heap.size v (numB n) ∧ Row w' v (numB n) ∧ Below w.heap.size w w' :=
  (NetP.refnum_any n hn w).mono fun _ _ ⟨v, he, ho, hb⟩ => ⟨v, he, ho, ho.row, hb⟩

theorem BoxS.grown {B : Nat} {m : Mk} {W W' : World} {row : Option Nat} (h : BoxS B m W) (hg : W.grownBy W' row) (hr : ∀ k, row = some k → B + 1 ≤ k) : BoxS B m W' := by
  have hne : some B ≠ row := fun e => by have := hr B e.symm; omega
  exact ⟨hg.cell h.1 hne, hg.cell h.2.1 hne, hg.cell h.2.2.1 hne, hg.cell h.2.2.2 hne⟩
/-- The way through the other Bytes: what was put so far. -/
def PutW (w : World) (m : Mk) (v : Value) (l : List UInt8) (W : World) : Prop := NetMem.Own W (w.heap.size + 1) v l ∧ BoxS w.heap.size m W ∧ Below w.heap.size w W ∧ w.heap.size + 1 ≤ W.heap.size
theorem PutW.below {w : World} {m : Mk} {v : Value} {l : List UInt8} {W W' : World} (h : PutW w m v l W) (hb : Below W.heap.size W W') : PutW w m v l W' :=
  ⟨h.1.below hb, h.2.1.below hb, h.2.2.1.trans (hb.mono h.2.2.1.size), Nat.le_trans h.2.2.2 hb.size⟩
theorem PutW.grown {w : World} {m : Mk} {v v' : Value} {l l' : List UInt8} {W W' : World} (h : PutW w m v l W) (ho : NetMem.Own W' (w.heap.size + 1) v' l') (hg : W.grownBy W' v.ownBlock) : PutW w m v' l' W' :=
  ⟨ho, h.2.1.grown hg fun k hk => (h.1.lt k hk).1, h.2.2.1.grown hg h.2.2.1.size fun k hk => by have := (h.1.lt k hk).1; omega, Nat.le_trans h.2.2.2 hg.size⟩

set_option maxHeartbeats 2000000 in
set_option maxRecDepth 100000 in
theorem rbytes_is (gen n : Int) (done : Bool) (st : Int) (out : ByteArray) (hm : Mk.is ⟨gen, n, done, st, out⟩ = true) (hs : I64 st) (ho : out.size ≤ 900000) (w : World) :
    Calls Tryd.prog 10 #[.agg #[.int .i64 gen, .int .i64 n, .bool done, .int .i64 st, .string out]] w fun e w' => ∃ v, e = .returned v ∧ NetMem.Own w' w.heap.size v (Mk.raw ⟨gen, n, done, st, out⟩) ∧ Below w.heap.size w w' := by
  obtain ⟨g0, g1, n0, n1⟩ := is_gen hm
  have HI := Lib.hid (fun W => ris_any ⟨gen, n, done, st, out⟩ W)
  rw [hm] at HI
  obtain ⟨i0, hi, hz0, hz1, hz2⟩ := info_parts infoB
  have HZ := Lib.hid (And.intro hi (And.intro hz0 (And.intro hz1 hz2)))
  have H0 := Lib.hid (And.intro hs (And.intro ho (show I64 n from ⟨by simp only at n0; omega, by simp only at n1; omega⟩)))
  have HA := Lib.hid (show Below w.heap.size w (w.alloc (.cells #[.int .i64 gen, .int .i64 n, .bool done, .int .i64 st, .string out] 25)) ∧ BoxS w.heap.size ⟨gen, n, done, st, out⟩ (w.alloc (.cells #[.int .i64 gen, .int .i64 n, .bool done, .int .i64 st, .string out] 25)) from ⟨(Below.refl _ _).alloc (Nat.le_refl _) _, by simp, by simp, by simp, by simp⟩)
  obtain ⟨L1, hL1⟩ : ∃ L, L = numB n := ⟨_, rfl⟩
  obtain ⟨L2, hL2⟩ : ∃ L, L = numB (doneN done) := ⟨_, rfl⟩
  obtain ⟨L3, hL3⟩ : ∃ L, L = numB st := ⟨_, rfl⟩
  obtain ⟨L4, hL4⟩ : ∃ L, L = textB out.data.toList := ⟨_, rfl⟩
  obtain ⟨DN, hDN⟩ : ∃ DN, DN = doneN done := ⟨_, rfl⟩
  have HC1 := Lib.hid (fun W => refnum_q n H0.out.2.2 W)
  have HC2 := Lib.hid (fun W => refnum_q DN (by rw [hDN]; exact doneN_I done) W)
  have HC3 := Lib.hid (fun W => refnum_q st H0.out.1 W)
  have HC4 := Lib.hid (fun W => NetP.reftext_any out (by have := H0.out.2.1; omega) W)
  rw [hDN] at HC2
  rw [← hL1] at HC1
  rw [← hL2] at HC2
  rw [← hL3] at HC3
  rw [← hL4] at HC4
  have HRAW := Lib.hid (show Mk.raw ⟨gen, n, done, st, out⟩ = L1 ++ (L2 ++ (L3 ++ L4)) ∧ L1.length ≤ 21 ∧ L2.length ≤ 21 ∧ L3.length ≤ 21 ∧ L4.length ≤ 1000000 from by
    refine ⟨by rw [hL1, hL2, hL3, hL4]; rfl, ?_, ?_, ?_, ?_⟩
    · rw [hL1]; exact (numB_le _ H0.out.2.2).2
    · rw [hL2]; exact (numB_le _ (doneN_I done)).2
    · rw [hL3]; exact (numB_le _ H0.out.1).2
    · rw [hL4]
      have e : out.data.toList.length = out.size := by rw [Array.length_toList]; rfl
      have := H0.out.2.1
      have h4 := (numB_le (out.data.toList.length : Int) ⟨by omega, by omega⟩).2
      simp only [textB, List.length_append]
      omega)
  clear hs ho hm g0 g1 n0 n1 hL1 hL2 hL3 hL4 hi hz0 hz1 hz2 hDN
  cases done with
  | true =>
    go_enter Tryd.func10, Tryd.ntmps10
    go_wp2_with fail
    refine (HI.out _).mono ?_
    rintro e w1 ⟨rfl, hb1⟩
    obtain ⟨bx1, bx2, bx3, bx4⟩ := HA.out.2.below hb1
    have hs1 := hb1.size
    simp at hs1
    have H1 := Lib.hid (show BoxS w.heap.size ⟨gen, n, true, st, out⟩ w1 ∧ Below w.heap.size w w1 ∧ w.heap.size + 1 ≤ w1.heap.size from ⟨HA.out.2.below hb1, HA.out.1.trans (hb1.mono HA.out.1.size), hs1⟩)
    clear hb1 hs1
    go_wp2_with fail
    refine (HC1.out _).mono ?_
    rintro e w2 ⟨v2, rfl, ho2, hr2, hb2⟩
    have H2 := Lib.hid (show PutW w ⟨gen, n, true, st, out⟩ v2 L1 w2 from ⟨ho2.mono H1.out.2.2, H1.out.1.below hb2, H1.out.2.1.trans (hb2.mono H1.out.2.1.size), Nat.le_trans H1.out.2.2 hb2.size⟩)
    clear ho2 hr2 hb2 bx1 bx2 bx3 bx4
    go_wp2_with fail
    refine (HC2.out _).mono ?_
    rintro e w3 ⟨v3, rfl, ho3, hr3, hb3⟩
    have H3 := Lib.hid (H2.out.below hb3)
    have ho2 := H3.out.1
    have hsrc := hr3.src (P := Tryd.prog) Tryd.underlying26
    clear ho3 hr3 hb3
    go_wp2_with (at_builtin; refine wpList_append_bytes _ rfl _ _ 26 26 rfl 5 i0 Tryd.underlying26 HZ.out.1 HZ.out.2.1 HZ.out.2.2.1 HZ.out.2.2.2 (w.heap.size + 1) _ _ rfl ho2 _ L2 rfl hsrc ?lim ?hB ?_)
    case lim => have := HRAW.out.2; omega
    case hB => exact H3.out.2.2.2
    intro v4 w4 ho4 hg4 _
    have H4 := Lib.hid (H3.out.grown ho4 hg4)
    obtain ⟨bx1, bx2, bx3, bx4⟩ := H4.out.2.1
    clear ho4 hg4 ho2 hsrc
    go_wp2_with fail
    refine (HC3.out _).mono ?_
    rintro e w5 ⟨v5, rfl, ho3, hr3, hb3⟩
    have H5 := Lib.hid (H4.out.below hb3)
    have ho2 := H5.out.1
    have hsrc := hr3.src (P := Tryd.prog) Tryd.underlying26
    clear ho3 hr3 hb3 bx1 bx2 bx3 bx4
    go_wp2_with (at_builtin; refine wpList_append_bytes _ rfl _ _ 26 26 rfl 5 i0 Tryd.underlying26 HZ.out.1 HZ.out.2.1 HZ.out.2.2.1 HZ.out.2.2.2 (w.heap.size + 1) _ _ rfl ho2 _ L3 rfl hsrc ?lim ?hB ?_)
    case lim => have := HRAW.out.2; simp only [List.length_append]; omega
    case hB => exact H5.out.2.2.2
    intro v6 w6 ho4 hg4 _
    have H6 := Lib.hid (H5.out.grown ho4 hg4)
    obtain ⟨bx1, bx2, bx3, bx4⟩ := H6.out.2.1
    clear ho4 hg4 ho2 hsrc
    go_wp2_with fail
    refine (HC4.out _).mono ?_
    rintro e w7 ⟨v7, rfl, ho3, hb3⟩
    have H7 := Lib.hid (H6.out.below hb3)
    have ho2 := H7.out.1
    have hsrc := ho3.row.src (P := Tryd.prog) Tryd.underlying26
    clear ho3 hb3 bx1 bx2 bx3 bx4
    go_wp2_with (at_builtin; refine wpList_append_bytes _ rfl _ _ 26 26 rfl 5 i0 Tryd.underlying26 HZ.out.1 HZ.out.2.1 HZ.out.2.2.1 HZ.out.2.2.2 (w.heap.size + 1) _ _ rfl ho2 _ L4 rfl hsrc ?lim ?hB ?_)
    case lim => have := HRAW.out.2; simp only [List.length_append]; omega
    case hB => exact H7.out.2.2.2
    intro v8 w8 ho4 hg4 _
    have H8 := Lib.hid (H7.out.grown ho4 hg4)
    clear ho4 hg4 ho2 hsrc
    go_wp2_with fail
    go_ret
    refine ⟨_, rfl, ?_, H8.out.2.2.1⟩
    have := H8.out.1.mono (Nat.le_succ w.heap.size)
    rw [HRAW.out.1]
    simpa [List.append_assoc] using this
  | false =>
    go_enter Tryd.func10, Tryd.ntmps10
    go_wp2_with fail
    refine (HI.out _).mono ?_
    rintro e w1 ⟨rfl, hb1⟩
    obtain ⟨bx1, bx2, bx3, bx4⟩ := HA.out.2.below hb1
    have hs1 := hb1.size
    simp at hs1
    have H1 := Lib.hid (show BoxS w.heap.size ⟨gen, n, false, st, out⟩ w1 ∧ Below w.heap.size w w1 ∧ w.heap.size + 1 ≤ w1.heap.size from ⟨HA.out.2.below hb1, HA.out.1.trans (hb1.mono HA.out.1.size), hs1⟩)
    clear hb1 hs1
    go_wp2_with fail
    refine (HC1.out _).mono ?_
    rintro e w2 ⟨v2, rfl, ho2, hr2, hb2⟩
    have H2 := Lib.hid (show PutW w ⟨gen, n, false, st, out⟩ v2 L1 w2 from ⟨ho2.mono H1.out.2.2, H1.out.1.below hb2, H1.out.2.1.trans (hb2.mono H1.out.2.1.size), Nat.le_trans H1.out.2.2 hb2.size⟩)
    clear ho2 hr2 hb2 bx1 bx2 bx3 bx4
    go_wp2_with fail
    refine (HC2.out _).mono ?_
    rintro e w3 ⟨v3, rfl, ho3, hr3, hb3⟩
    have H3 := Lib.hid (H2.out.below hb3)
    have ho2 := H3.out.1
    have hsrc := hr3.src (P := Tryd.prog) Tryd.underlying26
    clear ho3 hr3 hb3
    go_wp2_with (at_builtin; refine wpList_append_bytes _ rfl _ _ 26 26 rfl 5 i0 Tryd.underlying26 HZ.out.1 HZ.out.2.1 HZ.out.2.2.1 HZ.out.2.2.2 (w.heap.size + 1) _ _ rfl ho2 _ L2 rfl hsrc ?lim ?hB ?_)
    case lim => have := HRAW.out.2; omega
    case hB => exact H3.out.2.2.2
    intro v4 w4 ho4 hg4 _
    have H4 := Lib.hid (H3.out.grown ho4 hg4)
    obtain ⟨bx1, bx2, bx3, bx4⟩ := H4.out.2.1
    clear ho4 hg4 ho2 hsrc
    go_wp2_with fail
    refine (HC3.out _).mono ?_
    rintro e w5 ⟨v5, rfl, ho3, hr3, hb3⟩
    have H5 := Lib.hid (H4.out.below hb3)
    have ho2 := H5.out.1
    have hsrc := hr3.src (P := Tryd.prog) Tryd.underlying26
    clear ho3 hr3 hb3 bx1 bx2 bx3 bx4
    go_wp2_with (at_builtin; refine wpList_append_bytes _ rfl _ _ 26 26 rfl 5 i0 Tryd.underlying26 HZ.out.1 HZ.out.2.1 HZ.out.2.2.1 HZ.out.2.2.2 (w.heap.size + 1) _ _ rfl ho2 _ L3 rfl hsrc ?lim ?hB ?_)
    case lim => have := HRAW.out.2; simp only [List.length_append]; omega
    case hB => exact H5.out.2.2.2
    intro v6 w6 ho4 hg4 _
    have H6 := Lib.hid (H5.out.grown ho4 hg4)
    obtain ⟨bx1, bx2, bx3, bx4⟩ := H6.out.2.1
    clear ho4 hg4 ho2 hsrc
    go_wp2_with fail
    refine (HC4.out _).mono ?_
    rintro e w7 ⟨v7, rfl, ho3, hb3⟩
    have H7 := Lib.hid (H6.out.below hb3)
    have ho2 := H7.out.1
    have hsrc := ho3.row.src (P := Tryd.prog) Tryd.underlying26
    clear ho3 hb3 bx1 bx2 bx3 bx4
    go_wp2_with (at_builtin; refine wpList_append_bytes _ rfl _ _ 26 26 rfl 5 i0 Tryd.underlying26 HZ.out.1 HZ.out.2.1 HZ.out.2.2.1 HZ.out.2.2.2 (w.heap.size + 1) _ _ rfl ho2 _ L4 rfl hsrc ?lim ?hB ?_)
    case lim => have := HRAW.out.2; simp only [List.length_append]; omega
    case hB => exact H7.out.2.2.2
    intro v8 w8 ho4 hg4 _
    have H8 := Lib.hid (H7.out.grown ho4 hg4)
    clear ho4 hg4 ho2 hsrc
    go_wp2_with fail
    go_ret
    refine ⟨_, rfl, ?_, H8.out.2.2.1⟩
    have := H8.out.1.mono (Nat.le_succ w.heap.size)
    rw [HRAW.out.1]
    simpa [List.append_assoc] using this

theorem rbytes_any (m : Mk) (hs : I64 m.st) (ho : m.out.size ≤ 900000) (w : World) :
    Calls Tryd.prog 10 #[m.v] w fun e w' => ∃ v, e = .returned v ∧ NetMem.Own w' w.heap.size v m.bytes ∧ Below w.heap.size w w' := by
  obtain ⟨gen, n, done, st, out⟩ := m
  unfold Mk.bytes
  cases hm : Mk.is ⟨gen, n, done, st, out⟩ with
  | true => exact rbytes_is gen n done st out hm hs ho w
  | false =>
    have HI := Lib.hid (fun W => ris_any ⟨gen, n, done, st, out⟩ W)
    rw [hm] at HI
    have HB := Lib.hid (show Below w.heap.size w (w.alloc (.cells #[.int .i64 gen, .int .i64 n, .bool done, .int .i64 st, .string out] 25)) from (Below.refl _ _).alloc (Nat.le_refl _) _)
    show Calls Tryd.prog 10 #[.agg #[.int .i64 gen, .int .i64 n, .bool done, .int .i64 st, .string out]] w _
    clear hm hs ho
    go_enter Tryd.func10, Tryd.ntmps10
    go_wp2_with fail
    refine (HI.out _).mono ?_
    rintro e w1 ⟨rfl, hb1⟩
    have HB1 := Lib.hid (HB.out.trans (hb1.mono HB.out.size))
    clear hb1
    go_wp2_with fail
    go_ret
    exact ⟨_, rfl, NetMem.Own.nil _ _, HB1.out⟩
/-- .. its slice written out. -/
theorem rbytes_q (m : Mk) (hs : I64 m.st) (ho : m.out.size ≤ 900000) (w : World) :
    Calls Tryd.prog 10 #[m.v] w fun e w' => ∃ p c, e = .returned (.slice p m.bytes.length c) ∧ NetMem.Own w' w.heap.size (.slice p m.bytes.length c) m.bytes ∧ Below w.heap.size w w' :=
  (rbytes_any m hs ho w).mono fun e w' ⟨v, he, ho, hb⟩ => by
    obtain ⟨p, c, hv, -⟩ := id ho.row
    subst hv
    exact ⟨p, c, he, ho, hb⟩
end Go.Proofs.YtilplpjdbkipoaaDoor
