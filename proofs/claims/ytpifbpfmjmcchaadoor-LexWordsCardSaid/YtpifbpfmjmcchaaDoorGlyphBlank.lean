/-
  Proved: the contract of Blank. Conditions: none.
-/
import Derived.Test.YtpifbpfmjmcchaaDoorGlyphLet
namespace Go.Proofs.YtpifbpfmjmcchaaDoor
open Go Go.RowKit GlyphMath

theorem blank_any (r : Int) (w : World) :
    Calls Tryd.prog 53 #[.int .i32 r] w fun e w' => e = .returned (.bool (blankR r)) ∧ w = w' := by
  go_enter Tryd.func53, Tryd.ntmps53
  go_wp2_with fail
  all_goals
    go_ret
    refine ⟨ret_bool (bool_iff ?_), rfl⟩
    unfold blankR
    first | (simp; done) | (simp; omega)
end Go.Proofs.YtpifbpfmjmcchaaDoor
