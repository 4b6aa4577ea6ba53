/-
  Proved: the statements' own sets of letters. Conditions: none.
-/
import Derived.Test.YtloaalapkmbgeaaDoorRexAt
import Derived.Test.YtloaalapkmbgeaaDoorGlyphRLet
namespace Go.Proofs.YtloaalapkmbgeaaDoor
open Go Go.RowKit GlyphMath LexMath

theorem conv_u8 (b : Nat) (hb : b < 256) : IntKind.i32.wrap (b : Int) = (b : Int) := by
  rw [IntKind.wrap_i32]; omega
theorem rspecial_any (b : Nat) (w : World) :
    Calls Tryd.prog 70 #[.int .u8 (b : Int)] w fun e w' => e = .returned (.bool (other b)) ∧ w = w' := by
  have hu : other b = (decide (49 ≤ (b : Int) ∧ (b : Int) ≤ 57) || ((b : Int) == 64 || (b : Int) == 35 || (b : Int) == 63)) := by
    unfold other
    refine bool_iff ?_
    simp; omega
  rw [hu]
  clear hu
  go_enter Tryd.func70, Tryd.ntmps70
  go_wp2_with fail
  all_goals
    go_ret
    refine ⟨ret_bool (bool_iff ?_), rfl⟩
    first | (simp; done) | (simp; omega)
/-- Of letters that may stand in a text of an Arith, and are no parentheses. -/
def reckonN (b : Nat) : Bool := moreR b || (b == 32 || b == 9 || b == 43 || b == 45 || b == 42 || b == 47 || b == 37 || b == 60 || b == 62 || b == 61 || b == 33)
theorem rreckon_any (b : Nat) (hb : b < 256) (w : World) :
    Calls Tryd.prog 84 #[.int .u8 (b : Int)] w fun e w' => e = .returned (.bool (reckonN b)) ∧ w = w' := by
  have hc := conv_u8 b hb
  have hu : reckonN b = (moreR (b : Int) || ((b : Int) == 32 || (b : Int) == 9 || (b : Int) == 43 || (b : Int) == 45 || (b : Int) == 42 || (b : Int) == 47 || (b : Int) == 37 || (b : Int) == 60 || (b : Int) == 62 || (b : Int) == 61 || (b : Int) == 33)) := by
    unfold reckonN
    cases moreR (b : Int)
    · refine bool_iff ?_
      simp; omega
    · rfl
  rw [hu]
  clear hu
  obtain ⟨M, hM⟩ : ∃ M, moreR (b : Int) = M := ⟨_, rfl⟩
  rw [hM]
  have HM := Lib.hid hM
  clear hM hb
  cases M
  all_goals
    go_enter Tryd.func84, Tryd.ntmps84
    go_wp2_with (go_at_call 61; refine (rmore_any (b : Int) _).mono ?_; rintro e w1 ⟨rfl, rfl⟩; (try rw [HM.out]))
  all_goals
    go_ret
    refine ⟨ret_bool (bool_iff ?_), rfl⟩
    first | (simp; done) | (simp; omega) | (simp_all; done)
/-- Of letters that end a word, or begin a part. -/
def metaN (b : Nat) : Bool := ends b false || begins b
theorem rmeta_any (b : Nat) (w : World) :
    Calls Tryd.prog 44 #[.int .u8 (b : Int)] w fun e w' => e = .returned (.bool (metaN b)) ∧ w = w' := by
  have hu : metaN b = ((b : Int) == 32 || (b : Int) == 9 || (b : Int) == 10 || (b : Int) == 59 || (b : Int) == 38 || (b : Int) == 124 || (b : Int) == 40 || (b : Int) == 41 || (b : Int) == 60 || (b : Int) == 62 || (b : Int) == 39 || (b : Int) == 34 || (b : Int) == 36 || (b : Int) == 92) := by
    unfold metaN ends begins acts blankR
    refine bool_iff ?_
    simp; omega
  rw [hu]
  clear hu
  go_enter Tryd.func44, Tryd.ntmps44
  go_wp2_with fail
  all_goals
    go_ret
    refine ⟨ret_bool (bool_iff ?_), rfl⟩
    first | (simp; done) | (simp; omega) | (simp_all; done)
end Go.Proofs.YtloaalapkmbgeaaDoor
