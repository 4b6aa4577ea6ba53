/-
  Proved: contracts of the functions on one letter (First, More). Conditions: none.
-/
import Derived.Test.YtlgbfhjbfolibaaDoorRows
import Derived.Test.YtlgbfhjbfolibaaDoorGlyphMath
import Derived.Lib.Hide
import Derived.WalkKit
import Derived.IntWalk
namespace Go.Proofs.YtlgbfhjbfolibaaDoor
open Go Go.RowKit GlyphMath

theorem ret_bool {a b : Bool} (h : a = b) : Ending.returned (.bool a) = .returned (.bool b) := by rw [h]
theorem bool_iff {a b : Bool} (h : a = true ↔ b = true) : a = b := Bool.eq_iff_iff.2 h

theorem first_any (r : Int) (w : World) :
    Calls Tryd.prog 57 #[.int .i32 r] w fun e w' => e = .returned (.bool (firstR r)) ∧ w = w' := by
  go_enter Tryd.func57, Tryd.ntmps57
  go_wp2_with fail
  all_goals
    go_ret
    refine ⟨ret_bool (bool_iff ?_), rfl⟩
    unfold firstR
    first | (simp; done) | (simp; omega)

theorem more_any (r : Int) (w : World) :
    Calls Tryd.prog 58 #[.int .i32 r] w fun e w' => e = .returned (.bool (moreR r)) ∧ w = w' := by
  unfold moreR
  generalize hF : firstR r = F
  have HF := Lib.hid hF
  clear hF
  cases F
  all_goals
    go_enter Tryd.func58, Tryd.ntmps58
    go_wp2_with (go_at_call 57; refine (first_any r _).mono ?_; rintro e w1 ⟨rfl, rfl⟩; (try rw [HF.out]))
  all_goals
    go_ret
    refine ⟨ret_bool (bool_iff ?_), rfl⟩
    first | (simp; done) | (simp; omega)
end Go.Proofs.YtlgbfhjbfolibaaDoor
