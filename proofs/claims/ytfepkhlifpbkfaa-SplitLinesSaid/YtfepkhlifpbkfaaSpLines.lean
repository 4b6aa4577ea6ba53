/-
  Proved: of any text the law SplitLines answers true; nothing that was there has turned. Conditions: none.
-/
import Derived.Test.YtfepkhlifpbkfaaSpLine
import Derived.Test.YtfepkhlifpbkfaaSpRWords
import Derived.Test.YtfepkhlifpbkfaaSpKnown
namespace Go.Proofs.Ytfepkhlifpbkfaa
open Go Go.RowKit GlyphMath SpMath

set_option maxHeartbeats 1000000 in
theorem splitLines_law (s : ByteArray) (w : World) :
    Calls Try.prog 3 #[.string s] w fun e w' => e = .returned (.bool true) ∧ Below w.heap.size w w' := by
  by_cases hbig : 300 < s.size
  · have hI : (300 : Int) < (s.size : Int) := by omega
    go_enter Try.func3, Try.ntmps3
    go_wp2_with fail
    go_ret
    exact ⟨rfl, Below.refl _ _⟩
  · have hI : ¬ (300 : Int) < (s.size : Int) := by omega
    have HL := Lib.hid (fun W => lines_any s W (by omega))
    have HR := Lib.hid (fun W => rlines_any s W (by omega))
    have HW := Lib.hid (fun W => words_any s W (by omega))
    have HV := Lib.hid (fun W => rwords_any s W (by omega))
    obtain ⟨A, hA⟩ : ∃ A, lineM s = A := ⟨_, rfl⟩
    obtain ⟨M, hM⟩ : ∃ M, moreM s = M := ⟨_, rfl⟩
    obtain ⟨D, hD⟩ : ∃ D, decide (0 < s.size) = D := ⟨_, rfl⟩
    rw [hA, hM, hD] at HL HR
    clear hA hM hD hbig
    go_enter Try.func3, Try.ntmps3
    cases D
    all_goals
      go_wp2_with (first
        | (go_at_call 6; (with_reducible refine (HL.out _).mono ?_); rintro e w1 ⟨rfl, hb⟩; have B1 := Lib.hid hb; clear hb)
        | (go_at_call 7; (with_reducible refine (HR.out _).mono ?_); rintro e w2 ⟨rfl, hb⟩; have B2 := Lib.hid (B1.out.trans (hb.mono B1.out.size)); clear hb)
        | (go_at_call 9; (with_reducible refine (HW.out _).mono ?_); rintro e w3 ⟨v3, rfl, hr, hb⟩; have R3 := Lib.hid hr; have B3 := Lib.hid (B2.out.trans (hb.mono B2.out.size)); clear hb hr)
        | (go_at_call 10; (with_reducible refine (HV.out _).mono ?_); rintro e w4 ⟨v4, rfl, hr, hb⟩; have R4 := Lib.hid hr; have R5 := Lib.hid (R3.out.below hb (Nat.le_refl _)); have B4 := Lib.hid (B3.out.trans (hb.mono B3.out.size)); clear hb hr)
        | (go_at_call 8; (with_reducible refine (rtexts_any _ _ _ _ R5.out R4.out).mono ?_); rintro e w5 ⟨rfl, hb⟩; have B5 := Lib.hid (B4.out.trans (hb.mono B4.out.size)); clear hb)
        | (go_at_call 11; (with_reducible refine (known_any _).mono ?_); rintro e w6 ⟨rfl, hb⟩; have B6 := Lib.hid (B5.out.trans (hb.mono B5.out.size)); clear hb))
      go_ret
      exact ⟨rfl, B6.out⟩
end Go.Proofs.Ytfepkhlifpbkfaa
