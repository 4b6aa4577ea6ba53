/-
  Proved: what each row of chapter 12's cards takes of its listed variables. Conditions: as the rows say.
-/
import Derived.Test.YtlgbfhjbfolibaaDoorCards
import Derived.Test.YtlgbfhjbfolibaaDoorTie
import Derived.Test.YtlgbfhjbfolibaaDoorArNum
import Derived.Test.YtlgbfhjbfolibaaDoorGlyphFrame
import Derived.LaidMore
import Derived.Lay
import Derived.Carry
import Derived.Stop.Joined
import Derived.Stop.LaidErr
import Derived.Lib.LaidTab
import Derived.Lib.LaidU8
import Derived.Deep.Fields
import Derived.Deep.Slices
namespace Go.Proofs.YtlgbfhjbfolibaaDoor
open Go Go.ChangeShapes Go.WideShapes Go.ChangeAt Go.WideMaps Go.WideElems Go.RowKit ArMath

/-- The list that four of the rows bear. -/
def numL : List (String × DataW Unit) := [("math/bits.deBruijn32tab", Rows.laid_math_bits_deBruijn32tab), ("math/bits.deBruijn64tab", Rows.laid_math_bits_deBruijn64tab), ("internal/strconv.uint64pow10", Rows.laid_internal_strconv_uint64pow10), ("strconv.ErrRange", Rows.laid_strconv_ErrRange), ("strconv.ErrSyntax", Rows.laid_strconv_ErrSyntax)]

theorem tSyn : (Tryd.prog.globals[0]?).map (·.type) = some 53 := by kernel_rfl
theorem tRng : (Tryd.prog.globals[1]?).map (·.type) = some 53 := by kernel_rfl
theorem cErr : Tryd.prog.cellsOf 103 = 1 := by kernel_rfl
theorem cStr : Tryd.prog.cellsOf 9 = 1 := by kernel_rfl
theorem star : ("*errors.errorString" : String) = "*" ++ "errors.errorString" := by kernel_rfl
theorem rowErr (u : TypeId) (h : Tryd.prog.typeName? 3 u = some "*errors.errorString") : u = 101 :=
  typeName_ptr_named (nm := "errors.errorString") (by rw [← star]; kernel_rfl) (by kernel_rfl) (by decide) u (by rw [← star]; exact h)
theorem glob_of {W : World} {L : List (String × DataW Unit)} (h3 : laidMet Tryd.prog (("strconv.ErrRange", Rows.laid_strconv_ErrRange) :: ("strconv.ErrSyntax", Rows.laid_strconv_ErrSyntax) :: L) W) : GlobA W := by
  obtain ⟨a0, s0, hv0, -, -, -⟩ := laid_sentinel h3 gaRng tRng Tryd.underlying53 rowErr Tryd.underlying101 Tryd.underlying103 rfl rfl Tryd.underlying9 cErr cStr
  obtain ⟨a1, s1, hv1, -, -, -⟩ := laid_sentinel h3.tail gaSyn tSyn Tryd.underlying53 rowErr Tryd.underlying101 Tryd.underlying103 rfl rfl Tryd.underlying9 cErr cStr
  exact ⟨⟨_, _, hv1⟩, ⟨_, _, hv0⟩⟩
/-- WHAT THE ROW's LIST GIVES. -/
theorem glob_of_laid {W : World} (h : laidMetH Tryd.prog numL W) : GlobA W := by
  rw [MakeChecks.laidMetH_plain _ _ _ (by kernel_rfl)] at h
  exact glob_of h.tail.tail.tail
/-- All blocks of the library's variables are there. -/
theorem seven_of {W : World} {g : Nat} {n : String} {cs : Array Value} (hg : Tryd.prog.globalNamed n = some g) (h : W.var? Tryd.prog n = some cs) : g < W.heap.size := varA_lt hg h
theorem seven_of_laid {W : World} (h : laidMetH Tryd.prog numL W) : 7 ≤ W.heap.size := by
  rw [MakeChecks.laidMetH_plain _ _ _ (by kernel_rfl)] at h
  obtain ⟨g, t, cs, fuel, p, hg, hty, hvar, hd⟩ := Lib.laidMet.reads h (n := "math/bits.deBruijn64tab") (d := Rows.laid_math_bits_deBruijn64tab) (by simp [numL])
  obtain rfl := Option.some.inj ((show Tryd.prog.globalNamed "math/bits.deBruijn64tab" = some 6 by kernel_rfl).symm.trans hg)
  exact varA_lt hg hvar
theorem wit_met (os : Os) (args : Array Value) : laidMetH Tryd.prog numL ((World.laidAll Tryd.prog os numL).forCall (fun _ _ => 0) ⟨#[], args, []⟩).memory := by
  rw [MakeChecks.laidMetH_plain _ _ _ (by kernel_rfl)]
  exact laidMet_laidAll _ (by kernel_rfl) (by kernel_rfl)
end Go.Proofs.YtlgbfhjbfolibaaDoor
