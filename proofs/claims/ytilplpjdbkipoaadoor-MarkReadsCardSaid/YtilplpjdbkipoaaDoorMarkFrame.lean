/-
  Proved: what each law's row of chapter 6 takes of its listed variables and its arguments. Conditions: as the rows say.
-/
import Derived.Test.YtilplpjdbkipoaaDoorCards
import Derived.Test.YtilplpjdbkipoaaDoorTie
import Derived.Test.YtilplpjdbkipoaaDoorNetGet
import Derived.Test.YtilplpjdbkipoaaDoorSpanFrame
import Derived.Test.YtilplpjdbkipoaaDoorMarkMath
import Derived.LaidMore
import Derived.Carry
import Derived.Stop.Joined
import Derived.Stop.LaidErr
import Derived.Lib.LaidTab
import Derived.Lib.SmallJoins
import Derived.Deep.Fields
import Derived.Deep.Slices
namespace Go.Proofs.YtilplpjdbkipoaaDoor
open Go Go.ChangeShapes Go.WideShapes Go.ChangeAt Go.WideMaps Go.WideElems Go.RowKit MarkMath

/-- The list that each row bears. -/
def laidL : List (String × DataW Unit) := [("math/bits.deBruijn32tab", Rows.laid_math_bits_deBruijn32tab), ("math/bits.deBruijn64tab", Rows.laid_math_bits_deBruijn64tab), ("internal/strconv.uint64pow10", Rows.laid_internal_strconv_uint64pow10), ("strconv.ErrRange", Rows.laid_strconv_ErrRange), ("strconv.ErrSyntax", Rows.laid_strconv_ErrSyntax)]

/-- The door's own heap meets the condition. -/
theorem door_met (os : Os) (args : Array Value) : laidMetH Tryd.prog laidL ((World.doorLaid Tryd.prog 62 os).forCall (fun _ _ => 0) ⟨#[], args, []⟩).memory :=
  laidMetH_of_parts3 (fuel := 8) (laidMet_of_run' 8 (by kernel_rfl) (by kernel_rfl)) (by kernel_rfl) (by kernel_rfl)

theorem tTab : (Tryd.prog.globals[0]?).map (·.type) = some 128 := by kernel_rfl
theorem tSyn : (Tryd.prog.globals[2]?).map (·.type) = some 115 := by kernel_rfl
theorem tRng : (Tryd.prog.globals[3]?).map (·.type) = some 115 := by kernel_rfl
theorem cTab : Tryd.prog.cellsOf 128 = 20 := by kernel_rfl
theorem cU64 : Tryd.prog.cellsOf 88 = 1 := by kernel_rfl
theorem cErr : Tryd.prog.cellsOf 149 = 1 := by kernel_rfl
theorem cStr : Tryd.prog.cellsOf 9 = 1 := by kernel_rfl
theorem star : ("*errors.errorString" : String) = "*" ++ "errors.errorString" := by kernel_rfl
theorem rowErr (u : TypeId) (h : Tryd.prog.typeName? 3 u = some "*errors.errorString") : u = 147 :=
  typeName_ptr_named (nm := "errors.errorString") (by rw [← star]; kernel_rfl) (by kernel_rfl) (by decide) u (by rw [← star]; exact h)

/-- WHAT THE ROW's LIST GIVES. -/
theorem glob_of_laid {W : World} (h : laidMetH Tryd.prog laidL W) : NetP.Glob W := by
  rw [MakeChecks.laidMetH_plain _ _ _ (by kernel_rfl)] at h
  have h3 : laidMet Tryd.prog [("internal/strconv.uint64pow10", Lib.tabData .u64 Lib.pow10Tab), ("strconv.ErrRange", Rows.laid_strconv_ErrRange), ("strconv.ErrSyntax", Rows.laid_strconv_ErrSyntax)] W := h.tail.tail
  obtain ⟨a0, s0, hv0, -, -, -⟩ := laid_sentinel h3.tail NetP.gRng tRng Tryd.underlying115 rowErr Tryd.underlying147 Tryd.underlying149 rfl rfl Tryd.underlying9 cErr cStr
  obtain ⟨a1, s1, hv1, -, -, -⟩ := laid_sentinel h3.tail.tail NetP.gSyn tSyn Tryd.underlying115 rowErr Tryd.underlying147 Tryd.underlying149 rfl rfl Tryd.underlying9 cErr cStr
  exact ⟨Lib.tabIs_of_head NetP.gTab tTab Tryd.underlying128 Tryd.underlying88 cU64 cTab h3, ⟨_, _, hv1⟩, ⟨_, _, hv0⟩⟩

end Go.Proofs.YtilplpjdbkipoaaDoor
