/-
  Proved: contracts of the statements' own functions on one letter. Conditions: none.
-/
import Derived.Test.YtlgbfhjbfolibaaDoorGlyphLet
namespace Go.Proofs.YtlgbfhjbfolibaaDoor
open Go Go.RowKit GlyphMath

theorem rfirst_any (r : Int) (w : World) :
    Calls Tryd.prog 76 #[.int .i32 r] w fun e w' => e = .returned (.bool (firstR r)) ∧ w = w' := by
  go_enter Tryd.func76, Tryd.ntmps76
  go_wp2_with fail
  all_goals
    go_ret
    refine ⟨ret_bool (bool_iff ?_), rfl⟩
    unfold firstR
    first | (simp; done) | (simp; omega)

theorem rmore_any (r : Int) (w : World) :
    Calls Tryd.prog 72 #[.int .i32 r] w fun e w' => e = .returned (.bool (moreR r)) ∧ w = w' := by
  unfold moreR
  generalize hF : firstR r = F
  have HF := Lib.hid hF
  clear hF
  cases F
  all_goals
    go_enter Tryd.func72, Tryd.ntmps72
    go_wp2_with (go_at_call 76; refine (rfirst_any r _).mono ?_; rintro e w1 ⟨rfl, rfl⟩; (try rw [HF.out]))
  all_goals
    go_ret
    refine ⟨ret_bool (bool_iff ?_), rfl⟩
    first | (simp; done) | (simp; omega)
end Go.Proofs.YtlgbfhjbfolibaaDoor
