/-
  Proved: the contract of Blank. Conditions: none.
-/
import Derived.Test.YtfepkhlifpbkfaaGlyphLet
namespace Go.Proofs.Ytfepkhlifpbkfaa
open Go Go.RowKit GlyphMath

theorem blank_any (r : Int) (w : World) :
    Calls Try.prog 14 #[.int .i32 r] w fun e w' => e = .returned (.bool (blankR r)) ∧ w = w' := by
  go_enter Try.func14, Try.ntmps14
  go_wp2_with fail
  all_goals
    go_ret
    refine ⟨ret_bool (bool_iff ?_), rfl⟩
    unfold blankR
    first | (simp; done) | (simp; omega)
end Go.Proofs.Ytfepkhlifpbkfaa
