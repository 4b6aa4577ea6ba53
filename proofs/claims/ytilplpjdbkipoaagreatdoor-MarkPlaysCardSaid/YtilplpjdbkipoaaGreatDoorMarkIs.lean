/-
  Proved: mark's isMark, and the statements' own, answer what a mark is. Conditions: none.
-/
import Derived.Test.YtilplpjdbkipoaaGreatDoorMarkMath
import Derived.Test.YtilplpjdbkipoaaGreatDoorSpanCat
namespace Go.Proofs.YtilplpjdbkipoaaGreatDoor
open Go Go.RowKit NetMath NetMem MarkMath

theorem out_nil {out : ByteArray} (h : out.toList = []) : out = noB := by
  rw [ByteArray.toList_eq] at h
  apply ByteArray.ext
  simpa [noB] using h

theorem isGen_any (g : Int) (w : World) :
    Calls Tryz.prog 34 #[.int .i64 g] w fun e w' => e = .returned (.bool (isGenB g)) ∧ w = w' := by
  by_cases h : 0 ≤ g
  · have HI := Lib.hid (show isGenB g = decide (g ≤ 2147483646) from by simp [isGenB, h])
    rw [HI.out]
    go_enter Tryz.func34, Tryz.ntmps34
    go_wp2_with fail
    go_ret
    exact ⟨rfl, rfl⟩
  · have HI := Lib.hid (show isGenB g = false from by simp [isGenB, h])
    rw [HI.out]
    go_enter Tryz.func34, Tryz.ntmps34
    go_wp2_with fail
    go_ret
    exact ⟨rfl, rfl⟩

set_option maxHeartbeats 2000000 in
set_option maxRecDepth 100000 in
theorem isMark_any (m : Mk) (w : World) :
    Calls Tryz.prog 19 #[m.v] w fun e w' => e = .returned (.bool m.is) ∧ Below w.heap.size w w' := by
  obtain ⟨gen, n, done, st, out⟩ := m
  have HG := fun w => isGen_any gen w
  show Calls Tryz.prog 19 #[.agg #[.int .i64 gen, .int .i64 n, .bool done, .int .i64 st, .string out]] w _
  have HB := Lib.hid (show Below w.heap.size w (w.alloc (.cells #[.int .i64 gen, .int .i64 n, .bool done, .int .i64 st, .string out] 35)) from (Below.refl _ _).alloc (Nat.le_refl _) _)
  cases hg : isGenB gen with
  | false =>
    have HM := Lib.hid (show Mk.is ⟨gen, n, done, st, out⟩ = false from by simp [Mk.is, hg])
    rw [HM.out]
    rw [hg] at HG
    clear hg
    go_enter Tryz.func19, Tryz.ntmps19
    go_wp2_with fail
    refine (HG _).mono ?_
    rintro e w1 ⟨rfl, rfl⟩
    go_wp2_with fail
    go_ret
    exact ⟨rfl, HB.out⟩
  | true =>
    rw [hg] at HG
    by_cases h0 : 0 ≤ n
    · by_cases h1 : n ≤ 2147483647
      · cases done with
        | true =>
          have HM := Lib.hid (show Mk.is ⟨gen, n, true, st, out⟩ = true from by simp [Mk.is, hg, h0, h1])
          rw [HM.out]
          clear hg
          go_enter Tryz.func19, Tryz.ntmps19
          go_wp2_with fail
          refine (HG _).mono ?_
          rintro e w1 ⟨rfl, rfl⟩
          go_wp2_with fail
          go_ret
          exact ⟨rfl, HB.out⟩
        | false =>
          by_cases hs : st = 0
          · subst hs
            by_cases ho : out = noB
            · subst ho
              have HM := Lib.hid (show Mk.is ⟨gen, n, false, 0, noB⟩ = true from by simp [Mk.is, hg, h0, h1])
              rw [HM.out]
              unfold noB at *
              clear hg
              go_enter Tryz.func19, Tryz.ntmps19
              go_wp2_with fail
              refine (HG _).mono ?_
              rintro e w1 ⟨rfl, rfl⟩
              go_wp2_with fail
              go_ret
              exact ⟨rfl, HB.out⟩
            · have HM := Lib.hid (show Mk.is ⟨gen, n, false, 0, out⟩ = false from by simp [Mk.is, ho])
              have ho2 := fun e => ho (out_nil e)
              rw [HM.out]
              clear ho
              clear hg
              go_enter Tryz.func19, Tryz.ntmps19
              go_wp2_with fail
              refine (HG _).mono ?_
              rintro e w1 ⟨rfl, rfl⟩
              go_wp2_with fail
              go_ret
              exact ⟨rfl, HB.out⟩
          · have HM := Lib.hid (show Mk.is ⟨gen, n, false, st, out⟩ = false from by simp [Mk.is, hs])
            rw [HM.out]
            clear hg
            go_enter Tryz.func19, Tryz.ntmps19
            go_wp2_with fail
            refine (HG _).mono ?_
            rintro e w1 ⟨rfl, rfl⟩
            go_wp2_with fail
            go_ret
            exact ⟨rfl, HB.out⟩
      · have HM := Lib.hid (show Mk.is ⟨gen, n, done, st, out⟩ = false from by simp [Mk.is, hg, h0, h1])
        rw [HM.out]
        clear hg
        go_enter Tryz.func19, Tryz.ntmps19
        go_wp2_with fail
        refine (HG _).mono ?_
        rintro e w1 ⟨rfl, rfl⟩
        go_wp2_with fail
        go_ret
        exact ⟨rfl, HB.out⟩
    · have HM := Lib.hid (show Mk.is ⟨gen, n, done, st, out⟩ = false from by simp [Mk.is, hg, h0])
      rw [HM.out]
      clear hg
      go_enter Tryz.func19, Tryz.ntmps19
      go_wp2_with fail
      refine (HG _).mono ?_
      rintro e w1 ⟨rfl, rfl⟩
      go_wp2_with fail
      go_ret
      exact ⟨rfl, HB.out⟩
end Go.Proofs.YtilplpjdbkipoaaGreatDoor
