/-
  Proved: the contract of Blank. Conditions: none.
-/
import Derived.Test.YtfepkhlifpbkfaaDoorGlyphLet
namespace Go.Proofs.YtfepkhlifpbkfaaDoor
open Go Go.RowKit GlyphMath

theorem blank_any (r : Int) (w : World) :
    Calls Tryd.prog 20 #[.int .i32 r] w fun e w' => e = .returned (.bool (blankR r)) ∧ w = w' := by
  go_enter Tryd.func20, Tryd.ntmps20
  go_wp2_with fail
  all_goals
    go_ret
    refine ⟨ret_bool (bool_iff ?_), rfl⟩
    unfold blankR
    first | (simp; done) | (simp; omega)
end Go.Proofs.YtfepkhlifpbkfaaDoor
