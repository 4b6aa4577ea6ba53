/-
  Proved: what each law's row of chapter 6 takes of its listed variables and its arguments. Conditions: as the rows say.
-/
import Derived.Test.YtilplpjdbkipoaaGreatDoorCards
import Derived.Test.YtilplpjdbkipoaaGreatDoorTie
import Derived.Test.YtilplpjdbkipoaaGreatDoorNetCalls
import Derived.Test.YtilplpjdbkipoaaGreatDoorSpanFrame
import Derived.Test.YtilplpjdbkipoaaGreatDoorMarkMath
import Derived.LaidMore
import Derived.Carry
import Derived.Stop.Joined
import Derived.Stop.LaidErr
import Derived.Lib.LaidTab
import Derived.Lib.SmallJoins
import Derived.Deep.Fields
import Derived.Deep.Slices
namespace Go.Proofs.YtilplpjdbkipoaaGreatDoor
open Go Go.ChangeShapes Go.WideShapes Go.ChangeAt Go.WideMaps Go.WideElems Go.RowKit MarkMath

/-- The list that each row bears. -/
def laidL : List (String × DataW Unit) := [("math/bits.deBruijn32tab", Rows.laid_math_bits_deBruijn32tab), ("math/bits.deBruijn64tab", Rows.laid_math_bits_deBruijn64tab), ("internal/strconv.uint64pow10", Rows.laid_internal_strconv_uint64pow10), ("strconv.ErrRange", Rows.laid_strconv_ErrRange), ("strconv.ErrSyntax", Rows.laid_strconv_ErrSyntax)]

/-- The door's own heap meets the condition. -/
theorem door_met (os : Os) (args : Array Value) : laidMetH Tryz.prog laidL ((World.doorLaid Tryz.prog 62 os).forCall (fun _ _ => 0) ⟨#[], args, []⟩).memory :=
  laidMetH_of_parts3 (fuel := 8) (laidMet_of_run' 8 (by kernel_rfl) (by kernel_rfl)) (by kernel_rfl) (by kernel_rfl)

theorem tTab : (Tryz.prog.globals[0]?).map (·.type) = some 142 := by kernel_rfl
theorem tSyn : (Tryz.prog.globals[2]?).map (·.type) = some 131 := by kernel_rfl
theorem tRng : (Tryz.prog.globals[3]?).map (·.type) = some 131 := by kernel_rfl
theorem cTab : Tryz.prog.cellsOf 142 = 20 := by kernel_rfl
theorem cU64 : Tryz.prog.cellsOf 119 = 1 := by kernel_rfl
theorem cErr : Tryz.prog.cellsOf 163 = 1 := by kernel_rfl
theorem cStr : Tryz.prog.cellsOf 9 = 1 := by kernel_rfl
theorem star : ("*errors.errorString" : String) = "*" ++ "errors.errorString" := by kernel_rfl
theorem rowErr (u : TypeId) (h : Tryz.prog.typeName? 3 u = some "*errors.errorString") : u = 161 :=
  typeName_ptr_named (nm := "errors.errorString") (by rw [← star]; kernel_rfl) (by kernel_rfl) (by decide) u (by rw [← star]; exact h)

/-- WHAT THE ROW's LIST GIVES. -/
theorem glob_of_laid {W : World} (h : laidMetH Tryz.prog laidL W) : NetP.Glob W := by
  rw [MakeChecks.laidMetH_plain _ _ _ (by kernel_rfl)] at h
  have h3 : laidMet Tryz.prog [("internal/strconv.uint64pow10", Lib.tabData .u64 Lib.pow10Tab), ("strconv.ErrRange", Rows.laid_strconv_ErrRange), ("strconv.ErrSyntax", Rows.laid_strconv_ErrSyntax)] W := h.tail.tail
  obtain ⟨a0, s0, hv0, -, -, -⟩ := laid_sentinel h3.tail NetP.gRng tRng Tryz.underlying131 rowErr Tryz.underlying161 Tryz.underlying163 rfl rfl Tryz.underlying9 cErr cStr
  obtain ⟨a1, s1, hv1, -, -, -⟩ := laid_sentinel h3.tail.tail NetP.gSyn tSyn Tryz.underlying131 rowErr Tryz.underlying161 Tryz.underlying163 rfl rfl Tryz.underlying9 cErr cStr
  exact ⟨Lib.tabIs_of_head NetP.gTab tTab Tryz.underlying142 Tryz.underlying119 cU64 cTab h3, ⟨_, _, hv1⟩, ⟨_, _, hv0⟩⟩

end Go.Proofs.YtilplpjdbkipoaaGreatDoor
