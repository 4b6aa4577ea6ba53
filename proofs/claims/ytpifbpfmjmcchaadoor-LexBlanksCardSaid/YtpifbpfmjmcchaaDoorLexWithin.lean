/-
  Proved: the contracts of within and double, of whatever dollar. Conditions: the reader and the row lie in memory.
-/
import Derived.Test.YtpifbpfmjmcchaaDoorLexDol0
namespace Go.Proofs.YtpifbpfmjmcchaaDoor
open Go Go.RowKit GlyphMath LexMath

/-- Dollars within so many braces do as the model says. -/
def DollarDo (depth : Nat) (br : List Nat → Res Pt) : Prop :=
  ∀ (w : World) (X G sz B W : Nat) (xs : List Nat) (ps : List Pt), RowIn w X G sz B W xs ps → Fits xs ps → ∀ q : Bool,
    Calls Tryd.prog 58 #[.pointer (some ⟨X, 0, none⟩), .pointer (some ⟨W, 0, none⟩), .int .i64 (depth : Int), .bool q] w fun e w' => RowEnd w w' e X G sz B W (dollarM br q xs ps)

theorem neq_of {r k : Nat} (h : r ≠ k) : ((r : Int) == (k : Int)) = false := by
  have : ¬ (r : Int) = (k : Int) := by omega
  simpa using this

/-- The same end, beside what there was ahead. -/
theorem RowEnd.ahead {w w1 w' : World} {e : Ending} {X G sz B W : Nat} {m : Res (List Pt)} (k : Kept (fun k => k = X ∨ B ≤ k) w w1) (h : RowEnd w1 w' e X G sz B W m) : RowEnd w w' e X G sz B W m := by
  cases m with
  | error c => exact ⟨h.1, h.2.1, k.on h.2.2⟩
  | ok a => exact ⟨h.1, h.2.1, h.2.2.1, k.on h.2.2.2⟩

set_option maxHeartbeats 1000000 in
theorem within_any {depth : Nat} {br : List Nat → Res Pt} (hD : DollarDo depth br) {w : World} {X G sz B W : Nat} {xs : List Nat} {ps : List Pt} (h : RowIn w X G sz B W xs ps) (hf : Fits xs ps) :
    Calls Tryd.prog 69 #[.pointer (some ⟨X, 0, none⟩), .pointer (some ⟨W, 0, none⟩), .int .i64 (depth : Int)] w fun e w' => RowEnd w w' e X G sz B W (withinM br xs ps) := by
  have HN := Lib.hid (next_any h.rd)
  by_cases h0 : next xs = 0
  · have HM := Lib.hid (show withinM br xs ps = .error 2 by unfold withinM; rw [if_pos h0])
    rw [h0] at HN
    clear h hf h0 hD
    go_enter Tryd.func69, Tryd.ntmps69
    go_wp2_with (go_at_call 26; refine HN.out.mono ?_; rintro e w1 ⟨rfl, rfl⟩)
    go_ret
    rw [HM.out]
    exact ⟨.inl rfl, rfl, Kept.refl _ _⟩
  · by_cases h1 : next xs = 92
    · have HE := Lib.hid (show _ from by have := escapedWithin_any h hf; rw [show escapedWithinM xs ps = withinM br xs ps by unfold withinM; rw [if_neg h0, if_pos h1]] at this; exact this)
      rw [h1] at HN
      clear h hf h0 h1 hD
      obtain ⟨M, hM⟩ : ∃ M, withinM br xs ps = M := ⟨_, rfl⟩
      rw [hM] at HE ⊢
      clear hM
      go_enter Tryd.func69, Tryd.ntmps69
      go_wp2_with (go_at_call 26; refine HN.out.mono ?_; rintro e w1 ⟨rfl, rfl⟩)
      refine HE.out.mono ?_
      intro e w2 hE
      cases M with
      | error cc =>
        obtain ⟨hcc, rfl, hk⟩ := hE
        have HR := Lib.hid (And.intro hcc hk)
        clear hcc hk
        go_wp2_with fail
        go_ret
        exact ⟨HR.out.1, rfl, HR.out.2⟩
      | ok a =>
        obtain ⟨qs, r⟩ := a
        obtain ⟨rfl, hr⟩ := hE
        have HR := Lib.hid hr
        clear hr
        go_wp2_with fail
        go_ret
        exact ⟨rfl, HR.out⟩
    · by_cases h2 : next xs = 36
      · have HE := Lib.hid (show _ from by have := hD w X G sz B W xs ps h hf true; rw [show dollarM br true xs ps = withinM br xs ps by unfold withinM; rw [if_neg h0, if_neg h1, if_pos h2]] at this; exact this)
        rw [h2] at HN
        clear h hf h0 h1 h2 hD
        obtain ⟨M, hM⟩ : ∃ M, withinM br xs ps = M := ⟨_, rfl⟩
        rw [hM] at HE ⊢
        clear hM
        go_enter Tryd.func69, Tryd.ntmps69
        go_wp2_with (go_at_call 26; refine HN.out.mono ?_; rintro e w1 ⟨rfl, rfl⟩)
        refine HE.out.mono ?_
        intro e w2 hE
        cases M with
        | error cc =>
          obtain ⟨hcc, rfl, hk⟩ := hE
          have HR := Lib.hid (And.intro hcc hk)
          clear hcc hk
          go_wp2_with fail
          go_ret
          exact ⟨HR.out.1, rfl, HR.out.2⟩
        | ok a =>
          obtain ⟨qs, r⟩ := a
          obtain ⟨rfl, hr⟩ := hE
          have HR := Lib.hid hr
          clear hr
          go_wp2_with fail
          go_ret
          exact ⟨rfl, HR.out⟩
      · have HM := Lib.hid (show withinM br xs ps = .ok (lit ps (enc (got acts xs)) true, left acts xs) by unfold withinM; rw [if_neg h0, if_neg h1, if_neg h2])
        have HTL := Lib.hid (till_any stops_acts h.rd (fun _ _ => trivial))
        have HL := Lib.hid (show (enc (got acts xs)).length ≤ 16000 from enc_short (xs := xs) (by have := got_length acts xs; omega) h.rd.few)
        have HI := Lib.hid h
        have HF := Lib.hid hf
        obtain ⟨y, hy⟩ : ∃ y, next xs = y := ⟨_, rfl⟩
        rw [hy] at HN h0 h1 h2
        have y0 := neq_of h0
        have y1 := neq_of h1
        have y2 := neq_of h2
        clear h hf h0 h1 h2 hD hy
        go_enter Tryd.func69, Tryd.ntmps69
        go_wp2_with (first
          | (go_at_call 26; refine HN.out.mono ?_; rintro e w1 ⟨rfl, rfl⟩)
          | (go_at_call 24; refine HTL.out.mono ?_; rintro e w2 ⟨rfl, hs2⟩; have HS2 := Lib.hid hs2; clear hs2; have HP := Lib.hid (lit_any (HI.out.step HS2.out).row HF.out (enc (got acts xs)) HL.out true))
          | (go_at_call 59; refine HP.out.mono ?_; rintro e w3 ⟨rfl, hr3, hk3⟩; have HR3 := Lib.hid (And.intro hr3 hk3); clear hr3 hk3))
        go_ret
        rw [HM.out]
        exact ⟨rfl, ((HI.out.step HS2.out).put HR3.out.1 HR3.out.2).rd, HR3.out.1, HS2.out.2.wide.on HR3.out.2.wideB⟩
end Go.Proofs.YtpifbpfmjmcchaaDoor
