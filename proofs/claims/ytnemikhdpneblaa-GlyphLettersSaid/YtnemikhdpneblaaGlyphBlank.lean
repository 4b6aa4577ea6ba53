/-
  Proved: contracts of Blank, of the program and of the statements' own package. Conditions: none.
-/
import Derived.Test.YtnemikhdpneblaaGlyphLet
namespace Go.Proofs.Ytnemikhdpneblaa
open Go Go.RowKit GlyphMath

theorem blank_any (r : Int) (w : World) :
    Calls Try.prog 9 #[.int .i32 r] w fun e w' => e = .returned (.bool (blankR r)) ∧ w = w' := by
  go_enter Try.func9, Try.ntmps9
  go_wp2_with fail
  all_goals
    go_ret
    refine ⟨ret_bool (bool_iff ?_), rfl⟩
    unfold blankR
    first | (simp; done) | (simp; omega)

theorem rblank_any (r : Int) (w : World) :
    Calls Try.prog 10 #[.int .i32 r] w fun e w' => e = .returned (.bool (blankR r)) ∧ w = w' := by
  go_enter Try.func10, Try.ntmps10
  go_wp2_with fail
  all_goals
    go_ret
    refine ⟨ret_bool (bool_iff ?_), rfl⟩
    unfold blankR
    first | (simp; done) | (simp; omega)
end Go.Proofs.Ytnemikhdpneblaa
