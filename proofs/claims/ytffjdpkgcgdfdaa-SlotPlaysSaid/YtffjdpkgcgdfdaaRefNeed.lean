/-
  Proved: how many sectors a span needs, in the statements' own package. Conditions: the number is an int.
-/
import Derived.Test.YtffjdpkgcgdfdaaSpanNeed
namespace Go.Proofs.Ytffjdpkgcgdfdaa
open Go Go.RowKit SpanMath

theorem refneed_neg (n : Int) (w : World) (h : n < 0) :
    Calls Try.prog 26 #[.int .i64 n] w fun e w' => e = .returned (.int .i64 0) ∧ w = w' := by
  go_enter Try.func26, Try.ntmps26
  go_wp2_with fail
  go_ret
  exact ⟨rfl, rfl⟩

theorem refneed_any (n : Nat) (w : World) (h : n ≤ 9223372036854775807) :
    Calls Try.prog 26 #[.int .i64 (n : Int)] w fun e w' => e = .returned (.int .i64 (need n : Nat)) ∧ w = w' := by
  have h0 : (0 : Int) ≤ (n : Int) := by omega
  have h1 : (n : Int) ≤ 9223372036854775807 := by omega
  by_cases hz : n % 16 = 0
  · have hb : (((n : Int) % 16) != 0) = false := by simp; omega
    have HZ := Lib.hid hz
    clear h hz
    go_enter Try.func26, Try.ntmps26
    go_wp2_with fail
    go_ret
    exact ⟨ret_int (by rw [need_eq, HZ.out]; omega), rfl⟩
  · have hb : (((n : Int) % 16) != 0) = true := by simp; omega
    have HZ := Lib.hid (show min (n % 16) 1 = 1 by omega)
    clear h hz
    go_enter Try.func26, Try.ntmps26
    go_wp2_with fail
    go_ret
    exact ⟨ret_int (by rw [need_eq, HZ.out]; omega), rfl⟩
end Go.Proofs.Ytffjdpkgcgdfdaa
