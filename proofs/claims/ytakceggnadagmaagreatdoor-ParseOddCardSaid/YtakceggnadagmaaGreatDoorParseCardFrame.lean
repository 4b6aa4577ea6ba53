/-
  Proved: what a row of chapter 10's cards takes of the lexer's table of signs. Conditions: as the rows say.
-/
import Derived.Test.YtakceggnadagmaaGreatDoorCards
import Derived.Test.YtakceggnadagmaaGreatDoorTie
import Derived.Test.YtakceggnadagmaaGreatDoorGlyphFrame
import Derived.Test.YtakceggnadagmaaGreatDoorPj34
import Derived.Lib.LaidU8
import Derived.LaidMore
import Derived.Lay
import Derived.Carry
import Derived.Stop.Joined
import Derived.Stop.LaidErr
import Derived.Deep.Fields
import Derived.Deep.Slices
namespace Go.Proofs.YtakceggnadagmaaGreatDoor
open Go Go.ChangeShapes Go.WideShapes Go.ChangeAt Go.WideMaps Go.WideElems Go.RowKit GlyphMath LexMath

def signL : List (String × DataW Unit) := [("lazarus/lex.signs", Rows.laid_lazarus_lex_signs)]
def signBytes : List (List UInt8) := [[38, 38], [124, 124], [59, 59], [62, 62], [59], [124], [40], [41], [62], [60], [10]]
theorem sign_data : (Rows.laid_lazarus_lex_signs : DataW Unit) = .agg (signBytes.map fun b => .lit (.string b)) := by kernel_rfl
theorem sign_named : Tryz.prog.globalNamed "lazarus/lex.signs" = some 0 := by kernel_rfl
theorem sign_type : (Tryz.prog.globals[0]?).map (·.type) = some 149 := by kernel_rfl
theorem sign_cells : Tryz.prog.cellsOf 9 = 1 ∧ Tryz.prog.cellsOf 149 = 11 := ⟨by kernel_rfl, by kernel_rfl⟩
theorem lit_inj {a b : List UInt8} (h : (DataW.lit (.string a) : DataW Unit) = .lit (.string b)) : a = b := by
  cases h
  rfl
set_option maxRecDepth 100000 in
theorem signs_of_reads {w : World} (h : Lib.VarReads Tryz.prog w "lazarus/lex.signs" Rows.laid_lazarus_lex_signs) : Signs w := by
  obtain ⟨g, t, cs, fuel, p, hg, hty, hvar, hd⟩ := h
  obtain rfl := Option.some.inj (sign_named.symm.trans hg)
  obtain rfl := Option.some.inj (sign_type.symm.trans hty)
  rw [sign_data] at hd
  have key : ∀ i, i < 11 → ∃ b, signBytes[i]? = some b ∧ cs.toList[i]? = some (.string ⟨b.toArray⟩) := by
    intro i hi
    obtain ⟨fuel', d, q, hdi, he⟩ := Lib.array_elem Tryz.underlying149 hd i hi
    obtain ⟨s, hcz, hx, -⟩ := DataW.trod_string Tryz.underlying9 he
    rw [List.getElem?_map] at hdi
    obtain ⟨b, hb, hbd⟩ := Option.map_eq_some_iff.1 hdi
    have hd2 : d = .lit (.string s.data.toList) := congrArg Prod.fst hx
    rw [hd2] at hbd
    have e : b = s.data.toList := lit_inj hbd
    refine ⟨b, hb, ?_⟩
    have h2 := congrArg (·[0]?) hcz
    rw [sign_cells.1] at h2
    have h3 : cs.toList[i]? = some (.string s) := by simpa [List.getElem?_take, List.getElem?_drop] using h2
    rw [h3, e]
  intro j v hj
  have hjl : j < 11 := (List.getElem?_eq_some_iff.1 hj).1
  obtain ⟨b, hb, hc⟩ := key j hjl
  have hv := World.var?_cell hg hvar j
  rw [Nat.zero_add, hv, ← Array.getElem?_toList, hc]
  have e : signCells = signBytes.map fun b => .string ⟨b.toArray⟩ := rfl
  rw [e, List.getElem?_map, hb] at hj
  exact hj
theorem signs_of_laidH {W : World} (h : laidMetH Tryz.prog signL W) : Signs W := by
  rw [MakeChecks.laidMetH_plain _ _ _ (by kernel_rfl)] at h
  exact signs_of_reads (Lib.laidMet.reads h (by simp [signL]))
end Go.Proofs.YtakceggnadagmaaGreatDoor
