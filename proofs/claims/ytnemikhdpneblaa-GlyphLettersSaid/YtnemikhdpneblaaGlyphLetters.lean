/-
  Proved: the walk of the law GlyphLetters: it answers true and changes nothing that was there. Conditions: none.
-/
import Derived.Test.YtnemikhdpneblaaGlyphKnown
import Derived.Test.YtnemikhdpneblaaGlyphRLet
import Derived.Test.YtnemikhdpneblaaGlyphBlank
namespace Go.Proofs.Ytnemikhdpneblaa
open Go Go.RowKit GlyphMath

theorem letters_law (r : Int) (w : World) :
    Calls Try.prog 3 #[.int .i32 r] w fun e w' => e = .returned (.bool true) ∧ Below w.heap.size w w' := by
  obtain ⟨F, hF⟩ : ∃ F, firstR r = F := ⟨_, rfl⟩
  obtain ⟨M, hM⟩ : ∃ M, moreR r = M := ⟨_, rfl⟩
  obtain ⟨B, hB⟩ : ∃ B, blankR r = B := ⟨_, rfl⟩
  have HF := Lib.hid hF
  have HM := Lib.hid hM
  have HB := Lib.hid hB
  clear hF hM hB
  have HK := Lib.hid (known_any w)
  go_enter Try.func3, Try.ntmps3
  go_wp2_with (first
    | (go_at_call 5; refine (first_any _ _).mono ?_; rintro e w1 ⟨rfl, rfl⟩; rw [HF.out])
    | (go_at_call 6; refine (rfirst_any _ _).mono ?_; rintro e w1 ⟨rfl, rfl⟩; rw [HF.out])
    | (go_at_call 7; refine (more_any _ _).mono ?_; rintro e w1 ⟨rfl, rfl⟩; rw [HM.out])
    | (go_at_call 8; refine (rmore_any _ _).mono ?_; rintro e w1 ⟨rfl, rfl⟩; rw [HM.out])
    | (go_at_call 9; refine (blank_any _ _).mono ?_; rintro e w1 ⟨rfl, rfl⟩; rw [HB.out])
    | (go_at_call 10; refine (rblank_any _ _).mono ?_; rintro e w1 ⟨rfl, rfl⟩; rw [HB.out])
    | (go_at_call 11; refine HK.out.mono ?_; rintro e w1 ⟨rfl, hb⟩))
  go_ret
  exact ⟨by simp, by assumption⟩
end Go.Proofs.Ytnemikhdpneblaa
