/-
  Proved: how many sectors a span needs, in the program. Conditions: the number is an int.
-/
import Derived.Test.YtilplpjdbkipoaaGreatDoorRows
import Derived.Test.YtilplpjdbkipoaaGreatDoorSpanMath
import Derived.Lib.Hide
import Derived.WalkKit
import Derived.IntWalk
namespace Go.Proofs.YtilplpjdbkipoaaGreatDoor
open Go Go.RowKit SpanMath

theorem ret_int {k : IntKind} {a b : Int} (h : a = b) : Ending.returned (.int k a) = .returned (.int k b) := by rw [h]

theorem need_neg (n : Int) (w : World) (h : n < 0) :
    Calls Tryz.prog 23 #[.int .i64 n] w fun e w' => e = .returned (.int .i64 0) ∧ w = w' := by
  go_enter Tryz.func23, Tryz.ntmps23
  go_wp2_with fail
  go_ret
  exact ⟨rfl, rfl⟩

theorem need_any (n : Nat) (w : World) (h : n ≤ 9223372036854775807) :
    Calls Tryz.prog 23 #[.int .i64 (n : Int)] w fun e w' => e = .returned (.int .i64 (need n : Nat)) ∧ w = w' := by
  have h0 : (0 : Int) ≤ (n : Int) := by omega
  have h1 : (n : Int) ≤ 9223372036854775807 := by omega
  clear h
  go_enter Tryz.func23, Tryz.ntmps23
  go_wp2_with fail
  all_goals
    go_ret
    exact ⟨ret_int (by rw [need_eq]; omega), rfl⟩
end Go.Proofs.YtilplpjdbkipoaaGreatDoor
