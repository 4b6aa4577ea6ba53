/-
  Proved: the contracts of double and part, of whatever dollar. Conditions: the reader and the row lie in memory.
-/
import Derived.Test.YtpifbpfmjmcchaaDoorLexWithin
namespace Go.Proofs.YtpifbpfmjmcchaaDoor
open Go Go.RowKit GlyphMath LexMath

theorem takes34 {ys : List Nat} (h : takes [34] ys = none) : next ys ≠ 34 := fun e => by
  rw [takes_one, if_pos ⟨e, fun e' => by rw [e'] at e; cases e⟩] at h
  cases h

/-- What double is doing. -/
structure DbAt (w wr : World) (X G sz B W : Nat) (br : List Nat → Res Pt) (M : Res (List Pt)) (f : Nat) (ys : List Nat) (qs : List Pt) : Prop where
  inn : RowIn wr X G sz B W ys qs
  fits : Fits ys qs
  kept : Kept (fun k => k = X ∨ B ≤ k) w wr
  said : doubleL br f ys qs = M
  fuel : ys.length < f

set_option maxHeartbeats 1000000 in
theorem double_any {depth : Nat} {br : List Nat → Res Pt} (hb : BraceOk br) (hD : DollarDo depth br) {w : World} {X G sz B W : Nat} {xs : List Nat} {ps : List Pt} (h : RowIn w X G sz B W xs ps) (hf : Fits xs ps) (hx : xs ≠ []) :
    Calls Tryd.prog 57 #[.pointer (some ⟨X, 0, none⟩), .pointer (some ⟨W, 0, none⟩), .int .i64 (depth : Int)] w fun e w' => RowEnd w w' e X G sz B W (doubleM br xs ps) := by
  have HT := Lib.hid (take_any h.rd)
  have HI := Lib.hid h
  have HF := Lib.hid hf
  have HB := Lib.hid hb
  have HD := Lib.hid hD
  have htl := (tail_less hx).2
  have HTL := Lib.hid htl
  obtain ⟨M, hM⟩ : ∃ M, doubleM br xs ps = M := ⟨_, rfl⟩
  rw [hM]
  have HM := Lib.hid hM
  obtain ⟨y, hy⟩ : ∃ y, next xs.tail = y := ⟨_, rfl⟩
  have HY := Lib.hid hy
  clear h hf hb hD hx htl hM hy
  by_cases h34 : y = 34
  · subst h34
    have HF2 := Lib.hid (HF.out.lit [] true (show xs.tail.length + 1 ≤ xs.length from HTL.out) (by have := HTL.out; simp only [List.length_nil]; omega))
    go_enter Tryd.func57, Tryd.ntmps57
    go_wp2_with (first
      | (go_at_call 40; refine HT.out.mono ?_; rintro e w1 ⟨rfl, hs1⟩; have HS1 := Lib.hid hs1; clear hs1)
      | (go_at_call 26; refine (next_any HS1.out.1).mono ?_; rintro e w2 ⟨rfl, rfl⟩; rw [HY.out])
      | (go_at_call 59; refine (lit_any (HI.out.step HS1.out).row HF.out [] (by decide) true).mono ?_; rintro e w3 ⟨rfl, hr3, hk3⟩; have HA := Lib.hid (show DbAt w w3 X G sz B W br M (xs.length + 1) xs.tail (lit ps [] true) from ⟨(HI.out.step HS1.out).put hr3 hk3, HF2.out, HS1.out.2.wide.on hk3.wideB, by rw [← HM.out]; unfold doubleM; rw [HY.out, if_pos rfl], by have := HTL.out; omega⟩); clear hr3 hk3))
    go_loopw [] (fun wr => ∃ f ys qs, DbAt w wr X G sz B W br M f ys qs) (fun wr => lenAt wr X)
    case atStart => exact ⟨_, _, _, HA.out⟩
    case round =>
      obtain ⟨f, ys, qs, hA⟩ := hrel
      have HR := Lib.hid hA
      obtain ⟨f, rfl⟩ : ∃ g, f = g + 1 := ⟨f - 1, by have := hA.fuel; omega⟩
      clear hA
      obtain ⟨mt, hmt⟩ : ∃ mt, takes [34] ys = mt := ⟨_, rfl⟩
      have HMT := Lib.hid hmt
      clear hmt
      cases mt with
      | some r =>
        go_wp2_with (go_at_call 42; refine (takesM HR.out.inn.rd ⟨#[34]⟩ [34] rfl (by decide) HMT.out).mono ?_; rintro e w4 ⟨rfl, hs4⟩; simp only [Option.getD_some] at hs4; have HS4 := Lib.hid hs4; clear hs4)
        go_ret
        rw [← HR.out.said, doubleL, HMT.out]
        have hi := HR.out.inn.step HS4.out
        exact ⟨rfl, hi.rd, hi.row, HR.out.kept.on HS4.out.2.wide⟩
      | none =>
        obtain ⟨mw, hmw⟩ : ∃ mw, withinM br ys qs = mw := ⟨_, rfl⟩
        have HMW := Lib.hid hmw
        clear hmw
        cases mw with
        | error cc =>
          go_wp2_with (go_at_call 42; refine (takesM HR.out.inn.rd ⟨#[34]⟩ [34] rfl (by decide) HMT.out).mono ?_; rintro e w4 ⟨rfl, hs4⟩; simp only [Option.getD_none] at hs4; have HS4 := Lib.hid hs4; clear hs4)
          have hw := within_any HD.out (HR.out.inn.step HS4.out) HR.out.fits
          rw [HMW.out] at hw
          refine hw.mono ?_
          rintro e w5 ⟨hcc, rfl, hk5⟩
          have H5 := Lib.hid (And.intro hcc hk5)
          have hc0 : (((cc : Nat) : Int) != 0) = true := by rcases hcc with rfl | rfl <;> rfl
          clear hcc hk5 hw
          go_wp2_with fail
          go_ret
          rw [← HR.out.said, doubleL, HMT.out]
          simp only
          rw [HMW.out]
          exact ⟨H5.out.1, rfl, (HR.out.kept.on HS4.out.2.wide).on H5.out.2⟩
        | ok a =>
          obtain ⟨qs', ys'⟩ := a
          go_wp2_with (go_at_call 42; refine (takesM HR.out.inn.rd ⟨#[34]⟩ [34] rfl (by decide) HMT.out).mono ?_; rintro e w4 ⟨rfl, hs4⟩; simp only [Option.getD_none] at hs4; have HS4 := Lib.hid hs4; clear hs4)
          have hw := within_any HD.out (HR.out.inn.step HS4.out) HR.out.fits
          rw [HMW.out] at hw
          refine hw.mono ?_
          rintro e w5 ⟨rfl, hr5, hro5, hk5⟩
          have H5 := Lib.hid (And.intro hr5 (And.intro hro5 hk5))
          clear hw hr5 hro5 hk5
          go_wp2_with fail
          obtain ⟨l1, l2⟩ := within_less HB.out HMW.out (takes34 HMT.out)
          go_roundw
          case rel =>
            have hd : DbAt w w5 X G sz B W br M f ys' qs' := ⟨⟨H5.out.1, H5.out.2.1, HR.out.inn.hX, HR.out.inn.hG⟩, l2 HR.out.fits, (HR.out.kept.on HS4.out.2.wide).on H5.out.2.2, by
              rw [← HR.out.said, doubleL, HMT.out]
              simp only
              rw [HMW.out], by have := HR.out.fuel; have := l1.2; omega⟩
            exact ⟨f, ys', qs', hd⟩
          case measure =>
            have e1 := H5.out.1.lenAt
            have e2 := HR.out.inn.rd.lenAt
            have := l1.2
            simp only [e1, e2]
            omega
  · have y1 : ((y : Int) == 34) = false := neq_of h34
    have HF2 := Lib.hid (HF.out.mono (show xs.tail.length ≤ xs.length by have := HTL.out; omega))
    have HN34 := Lib.hid h34
    clear h34
    go_enter Tryd.func57, Tryd.ntmps57
    go_wp2_with (first
      | (go_at_call 40; refine HT.out.mono ?_; rintro e w3 ⟨rfl, hs1⟩; have HS1 := Lib.hid hs1; clear hs1; have HA := Lib.hid (show DbAt w w3 X G sz B W br M (xs.length + 1) xs.tail ps from ⟨HI.out.step HS1.out, HF2.out, HS1.out.2.wide, by rw [← HM.out]; unfold doubleM; rw [HY.out, if_neg HN34.out], by have := HTL.out; omega⟩))
      | (go_at_call 26; refine (next_any HS1.out.1).mono ?_; rintro e w2 ⟨rfl, rfl⟩; rw [HY.out]))
    go_loopw [] (fun wr => ∃ f ys qs, DbAt w wr X G sz B W br M f ys qs) (fun wr => lenAt wr X)
    case atStart => exact ⟨_, _, _, HA.out⟩
    case round =>
      obtain ⟨f, ys, qs, hA⟩ := hrel
      have HR := Lib.hid hA
      obtain ⟨f, rfl⟩ : ∃ g, f = g + 1 := ⟨f - 1, by have := hA.fuel; omega⟩
      clear hA
      obtain ⟨mt, hmt⟩ : ∃ mt, takes [34] ys = mt := ⟨_, rfl⟩
      have HMT := Lib.hid hmt
      clear hmt
      cases mt with
      | some r =>
        go_wp2_with (go_at_call 42; refine (takesM HR.out.inn.rd ⟨#[34]⟩ [34] rfl (by decide) HMT.out).mono ?_; rintro e w4 ⟨rfl, hs4⟩; simp only [Option.getD_some] at hs4; have HS4 := Lib.hid hs4; clear hs4)
        go_ret
        rw [← HR.out.said, doubleL, HMT.out]
        have hi := HR.out.inn.step HS4.out
        exact ⟨rfl, hi.rd, hi.row, HR.out.kept.on HS4.out.2.wide⟩
      | none =>
        obtain ⟨mw, hmw⟩ : ∃ mw, withinM br ys qs = mw := ⟨_, rfl⟩
        have HMW := Lib.hid hmw
        clear hmw
        cases mw with
        | error cc =>
          go_wp2_with (go_at_call 42; refine (takesM HR.out.inn.rd ⟨#[34]⟩ [34] rfl (by decide) HMT.out).mono ?_; rintro e w4 ⟨rfl, hs4⟩; simp only [Option.getD_none] at hs4; have HS4 := Lib.hid hs4; clear hs4)
          have hw := within_any HD.out (HR.out.inn.step HS4.out) HR.out.fits
          rw [HMW.out] at hw
          refine hw.mono ?_
          rintro e w5 ⟨hcc, rfl, hk5⟩
          have H5 := Lib.hid (And.intro hcc hk5)
          have hc0 : (((cc : Nat) : Int) != 0) = true := by rcases hcc with rfl | rfl <;> rfl
          clear hcc hk5 hw
          go_wp2_with fail
          go_ret
          rw [← HR.out.said, doubleL, HMT.out]
          simp only
          rw [HMW.out]
          exact ⟨H5.out.1, rfl, (HR.out.kept.on HS4.out.2.wide).on H5.out.2⟩
        | ok a =>
          obtain ⟨qs', ys'⟩ := a
          go_wp2_with (go_at_call 42; refine (takesM HR.out.inn.rd ⟨#[34]⟩ [34] rfl (by decide) HMT.out).mono ?_; rintro e w4 ⟨rfl, hs4⟩; simp only [Option.getD_none] at hs4; have HS4 := Lib.hid hs4; clear hs4)
          have hw := within_any HD.out (HR.out.inn.step HS4.out) HR.out.fits
          rw [HMW.out] at hw
          refine hw.mono ?_
          rintro e w5 ⟨rfl, hr5, hro5, hk5⟩
          have H5 := Lib.hid (And.intro hr5 (And.intro hro5 hk5))
          clear hw hr5 hro5 hk5
          go_wp2_with fail
          obtain ⟨l1, l2⟩ := within_less HB.out HMW.out (takes34 HMT.out)
          go_roundw
          case rel =>
            have hd : DbAt w w5 X G sz B W br M f ys' qs' := ⟨⟨H5.out.1, H5.out.2.1, HR.out.inn.hX, HR.out.inn.hG⟩, l2 HR.out.fits, (HR.out.kept.on HS4.out.2.wide).on H5.out.2.2, by
              rw [← HR.out.said, doubleL, HMT.out]
              simp only
              rw [HMW.out], by have := HR.out.fuel; have := l1.2; omega⟩
            exact ⟨f, ys', qs', hd⟩
          case measure =>
            have e1 := H5.out.1.lenAt
            have e2 := HR.out.inn.rd.lenAt
            have := l1.2
            simp only [e1, e2]
            omega
end Go.Proofs.YtpifbpfmjmcchaaDoor
