/-
  Proved: dollar, and parts within so many braces, whatever is next. Conditions: the reader and the row lie in memory.
-/
import Derived.Test.YtpifbpfmjmcchaaDoorLexPart
import Derived.Test.YtpifbpfmjmcchaaDoorLexDolA
import Derived.Test.YtpifbpfmjmcchaaDoorLexDolB
import Derived.Test.YtpifbpfmjmcchaaDoorLexDolC
import Derived.Test.YtpifbpfmjmcchaaDoorLexDolD
namespace Go.Proofs.YtpifbpfmjmcchaaDoor
open Go Go.RowKit GlyphMath LexMath

set_option maxHeartbeats 1000000 in
set_option maxRecDepth 100000 in
theorem dollar_E {depth : Nat} (br : List Nat → Res Pt) {w : World} {X G sz B W : Nat} {xs : List Nat} {ps : List Pt} (h : RowIn w X G sz B W xs ps) (hf : Fits xs ps) (q : Bool) (ht : takes [123] xs.tail = none) (ht2 : takes [40, 40] xs.tail = none) (h3 : firstR (next xs.tail : Int) = false) (h4 : other (next xs.tail) = false) :
    Calls Tryd.prog 58 #[.pointer (some ⟨X, 0, none⟩), .pointer (some ⟨W, 0, none⟩), .int .i64 (depth : Int), .bool q] w fun e w' => RowEnd w w' e X G sz B W (dollarM br q xs ps) := by
  have HT := Lib.hid (take_any h.rd)
  have HI := Lib.hid h
  have HF := Lib.hid hf
  have HTT0 := Lib.hid ht
  have HTT1 := Lib.hid ht2
  have HM := Lib.hid (show dollarM br q xs ps = .ok (lit ps [36] true, xs.tail) from dollar_lit ht ht2 (by rw [h3, h4]; rfl))
  have HFI := Lib.hid (fun W => by have := firstT (next xs.tail) W; rw [h3] at this; exact this)
  have HOT := Lib.hid (fun W => by have := other_any (next xs.tail) (next_lt0 (fun x hx => h.rd.good x (List.mem_of_mem_tail hx))) W; rw [h4] at this; exact this)
  obtain ⟨y, hy⟩ : ∃ y, next xs.tail = y := ⟨_, rfl⟩
  rw [hy] at HFI HOT
  have HYY := Lib.hid hy
  clear h hf ht ht2 h3 h4 hy
  go_enter Tryd.func58, Tryd.ntmps58
  go_wp2_with fail
  refine HT.out.mono ?_
  rintro e w1 ⟨rfl, hs1⟩
  have hI1 := Lib.hid ((HI.out.step hs1).below ((Below.refl _ w1).alloc (Nat.le_refl _) ZB))
  have HK0 := Lib.hid (show Kept (fun k => k = X ∨ B ≤ k) w (w1.alloc ZB) from hs1.2.wide.on (Kept.of_below ((Below.refl _ w1).alloc (Nat.le_refl _) ZB)))
  clear hs1
  go_wp2_with fail
  refine (takesM hI1.out.rd ⟨#[123]⟩ [123] rfl (by decide) HTT0.out).mono ?_
  rintro e w2 ⟨rfl, hs⟩
  simp only [Option.getD_none] at hs
  have HS0 := Lib.hid hs
  clear hs
  go_wp2_with fail
  refine (takesM HS0.out.1 ⟨#[40, 40]⟩ [40, 40] rfl (by decide) HTT1.out).mono ?_
  rintro e w3 ⟨rfl, hs⟩
  simp only [Option.getD_none] at hs
  have HS := Lib.hid (HS0.out.trans hs)
  clear hs
  go_wp2_with (first
    | (go_at_call 26; refine (next_any HS.out.1).mono ?_; rintro e w4 ⟨rfl, rfl⟩; rw [HYY.out])
    | (go_at_call 72; refine (HFI.out _).mono ?_; rintro e w4 ⟨rfl, rfl⟩)
    | (go_at_call 73; refine (HOT.out _).mono ?_; rintro e w5 ⟨rfl, hb5⟩; have HS5 := Lib.hid (HS.out.below hb5); clear hb5)
    | (go_at_call 59; refine (lit_any (hI1.out.step HS5.out).row HF.out [36] (by decide) true).mono ?_; rintro e w6 ⟨rfl, hr6, hk6⟩; have HR6 := Lib.hid (And.intro hr6 hk6); clear hr6 hk6))
  go_ret
  rw [HM.out]
  exact ⟨rfl, ((hI1.out.step HS5.out).put HR6.out.1 HR6.out.2).rd, HR6.out.1, (HK0.out.on HS5.out.2.wide).on HR6.out.2.wideB⟩

theorem dollar_do {depth : Nat} {br : List Nat → Res Pt} (hb : BraceDo depth br) : DollarDo depth br := by
  intro w X G sz B W xs ps h hf q
  cases ht : takes [123] xs.tail with
  | some r => exact dollar_A hb h hf q ht
  | none =>
    cases ht2 : takes [40, 40] xs.tail with
    | some r => exact dollar_B br h hf q ht ht2
    | none =>
      cases h3 : firstR (next xs.tail : Int) with
      | true => exact dollar_C br h hf q ht ht2 h3
      | false =>
        cases h4 : other (next xs.tail) with
        | true => exact dollar_D br h hf q ht ht2 h3 h4
        | false => exact dollar_E br h hf q ht ht2 h3 h4

/-- Parts, within so many braces as there may still begin others. -/
theorem parts_do : ∀ d, d ≤ 20 → PartsDo (20 - d) (partsM d)
  | 0, _ => by
    have h := parts_any (depth := 20) (br := bracesM true fun _ => .error 0) (braces_ok (f := fun _ => .error 0) (fun _ _ _ h => by cases h) true) (dollar_do (braces_lim _))
    exact h
  | d + 1, hd => by
    have ih := parts_do d (by omega)
    have hP : PartsDo (19 - d + 1) (partsM d) := by
      rw [show 19 - d + 1 = 20 - d by omega]; exact ih
    have h := parts_any (depth := 19 - d) (br := bracesM false (partsM d)) (braces_ok (parts_ok d) false) (dollar_do (braces_any hP (by omega)))
    rw [show 20 - (d + 1) = 19 - d by omega]
    intro w X G sz xs hr
    have hx := h w X G sz xs hr
    have e : (decide (0 < 19 - d)) = decide (d < 19) := by
      by_cases hc : d < 19
      · rw [decide_eq_true hc, decide_eq_true (by omega)]
      · rw [decide_eq_false hc, decide_eq_false (by omega)]
    rw [e] at hx
    exact hx
theorem parts_all {w : World} {X G sz : Nat} {xs : List Nat} (h : Rd w X G sz xs) :
    Calls Tryd.prog 29 #[.pointer (some ⟨X, 0, none⟩), .int .i64 0] w fun e w' => PartsEnd w w' e X G sz (partsM 20 xs) := parts_do 20 (Nat.le_refl _) w X G sz xs h

theorem skip_any {w : World} {X G sz : Nat} {xs : List Nat} (h : Rd w X G sz xs) :
    Calls Tryd.prog 15 #[.pointer (some ⟨X, 0, none⟩)] w fun e w' => e = .returned (.tuple #[]) ∧ RStep w w' X G sz (skipM xs) := by
  have H1 := Lib.hid (till_any stops_blank h (fun _ _ => trivial))
  obtain ⟨l, hl⟩ : ∃ l, left (fun r => r != 32 && r != 9) xs = l := ⟨_, rfl⟩
  rw [hl] at H1
  obtain ⟨y, hy⟩ : ∃ y, next l = y := ⟨_, rfl⟩
  have HY := Lib.hid hy
  have HL := Lib.hid hl
  clear h hl hy
  by_cases hc : y = 35
  · subst hc
    go_enter Tryd.func15, Tryd.ntmps15
    go_wp2_with fail
    refine H1.out.mono ?_
    rintro e w1 ⟨rfl, hs1⟩
    have HS1 := Lib.hid hs1
    clear hs1
    go_wp2_with (first
      | (go_at_call 26; refine (next_any HS1.out.1).mono ?_; rintro e w2 ⟨rfl, rfl⟩; rw [HY.out])
      | (go_at_call 24; refine (till_any stops_lf HS1.out.1 (fun _ _ => trivial)).mono ?_; rintro e w3 ⟨rfl, hs3⟩; have HS3 := Lib.hid hs3; clear hs3))
    go_end0
    refine ⟨rfl, ?_⟩
    unfold skipM
    rw [HL.out, if_pos HY.out]
    exact HS1.out.trans HS3.out
  · have y1 : ((y : Int) == 35) = false := neq_of hc
    have HC := Lib.hid hc
    clear hc
    go_enter Tryd.func15, Tryd.ntmps15
    go_wp2_with fail
    refine H1.out.mono ?_
    rintro e w1 ⟨rfl, hs1⟩
    have HS1 := Lib.hid hs1
    clear hs1
    go_wp2_with (go_at_call 26; refine (next_any HS1.out.1).mono ?_; rintro e w2 ⟨rfl, rfl⟩; rw [HY.out])
    go_end0
    refine ⟨rfl, ?_⟩
    unfold skipM
    rw [HL.out, if_neg (by rw [HY.out]; exact HC.out)]
    exact HS1.out
end Go.Proofs.YtpifbpfmjmcchaaDoor
