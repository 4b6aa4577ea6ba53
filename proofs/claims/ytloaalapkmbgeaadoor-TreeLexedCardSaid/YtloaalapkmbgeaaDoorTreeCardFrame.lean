/-
  Proved: what each row of chapter 9's cards takes of its listed variables. Conditions: as the rows say.
-/
import Derived.Test.YtloaalapkmbgeaaDoorCards
import Derived.Test.YtloaalapkmbgeaaDoorTie
import Derived.Test.YtloaalapkmbgeaaDoorGlyphFrame
import Derived.Test.YtloaalapkmbgeaaDoorTreeFits0
import Derived.Lib.LaidU8
import Derived.LaidMore
import Derived.Lay
import Derived.Carry
import Derived.Stop.Joined
import Derived.Stop.LaidErr
import Derived.Deep.Fields
import Derived.Deep.Slices
namespace Go.Proofs.YtloaalapkmbgeaaDoor
open Go Go.ChangeShapes Go.WideShapes Go.ChangeAt Go.WideMaps Go.WideElems Go.RowKit GlyphMath LexMath TreeMath

def shapeL : List (String × DataW Unit) := [("lazarus/tree.shapes", Rows.laid_lazarus_tree_shapes)]
theorem shape_data : (Rows.laid_lazarus_tree_shapes : DataW Unit) = .agg (shapesL.map fun s => .agg [.lit (.string s.op), .agg [.lit (.int .i64 s.k0), .lit (.int .i64 s.k1)], .agg [.lit (.int .i64 s.w0), .lit (.int .i64 s.w1)], .lit (.bool s.name), .lit (.bool s.pats), .lit (.bool s.assigns), .lit (.bool s.redirs)]) := by kernel_rfl
theorem shape_named : Tryd.prog.globalNamed "lazarus/tree.shapes" = some 0 := by kernel_rfl
theorem shape_type : (Tryd.prog.globals[0]?).map (·.type) = some 81 := by kernel_rfl
theorem shape_struct : ∃ f0 f1 f2 f3 f4 f5 f6 : Field, Tryd.prog.underlying 80 = some (.struct #[f0, f1, f2, f3, f4, f5, f6]) ∧ (f0.type = 9 ∧ f0.offset = 0) ∧ (f1.type = 78 ∧ f1.offset = 1) ∧ (f2.type = 78 ∧ f2.offset = 3) ∧ (f3.type = 4 ∧ f3.offset = 5) ∧ (f4.type = 4 ∧ f4.offset = 6) ∧ (f5.type = 4 ∧ f5.offset = 7) ∧ (f6.type = 4 ∧ f6.offset = 8) :=
  ⟨_, _, _, _, _, _, _, Tryd.underlying80, ⟨rfl, rfl⟩, ⟨rfl, rfl⟩, ⟨rfl, rfl⟩, ⟨rfl, rfl⟩, ⟨rfl, rfl⟩, ⟨rfl, rfl⟩, ⟨rfl, rfl⟩⟩
theorem count_struct : ∃ f0 f1 : Field, Tryd.prog.underlying 78 = some (.struct #[f0, f1]) ∧ (f0.type = 3 ∧ f0.offset = 0) ∧ (f1.type = 3 ∧ f1.offset = 1) :=
  ⟨_, _, Tryd.underlying78, ⟨rfl, rfl⟩, ⟨rfl, rfl⟩⟩
theorem shape_cells : Tryd.prog.cellsOf 80 = 9 ∧ Tryd.prog.cellsOf 78 = 2 ∧ Tryd.prog.cellsOf 3 = 1 ∧ Tryd.prog.cellsOf 9 = 1 ∧ Tryd.prog.cellsOf 4 = 1 := ⟨by kernel_rfl, by kernel_rfl, by kernel_rfl, by kernel_rfl, by kernel_rfl⟩

section
variable {H : Type} {enc : TypeId × Value → H} {P : Program} {w : World} {base : Nat} {spare : Nat → Bool} {held : Bool}
theorem trod_struct7 {t : TypeId} {f0 f1 f2 f3 f4 f5 f6 : Field} {fuel : Nat} {cs : List Value} {x : DataW H × List MemPlace} (ht : P.underlying t = some (.struct #[f0, f1, f2, f3, f4, f5, f6])) (h : DataW.trod enc P w base spare held fuel t cs = some x) :
    ∃ y0 y1 y2 y3 y4 y5 y6 n, x.1 = .agg [y0.1, y1.1, y2.1, y3.1, y4.1, y5.1, y6.1] ∧ cs.length = P.cellsOf t ∧ DataW.trod enc P w base spare held n f0.type ((cs.drop f0.offset).take (P.cellsOf f0.type)) = some y0 ∧
      DataW.trod enc P w base spare held n f1.type ((cs.drop f1.offset).take (P.cellsOf f1.type)) = some y1 ∧ DataW.trod enc P w base spare held n f2.type ((cs.drop f2.offset).take (P.cellsOf f2.type)) = some y2 ∧
      DataW.trod enc P w base spare held n f3.type ((cs.drop f3.offset).take (P.cellsOf f3.type)) = some y3 ∧ DataW.trod enc P w base spare held n f4.type ((cs.drop f4.offset).take (P.cellsOf f4.type)) = some y4 ∧
      DataW.trod enc P w base spare held n f5.type ((cs.drop f5.offset).take (P.cellsOf f5.type)) = some y5 ∧ DataW.trod enc P w base spare held n f6.type ((cs.drop f6.offset).take (P.cellsOf f6.type)) = some y6 := by
  obtain ⟨xs, n, _, rfl, hl, hlen, hf⟩ := DataW.trod_struct ht h
  match xs, hlen with
  | [y0, y1, y2, y3, y4, y5, y6], _ => exact ⟨y0, y1, y2, y3, y4, y5, y6, n, rfl, hl, by simpa using hf 0 f0 rfl, by simpa using hf 1 f1 rfl, by simpa using hf 2 f2 rfl, by simpa using hf 3 f3 rfl, by simpa using hf 4 f4 rfl, by simpa using hf 5 f5 rfl, by simpa using hf 6 f6 rfl⟩
end
theorem one_lit {c : Value} {s : ByteArray} {l : List UInt8} (h1 : [c] = [.string s]) (h2 : (DataW.lit (.string l) : DataW Unit) = .lit (.string s.data.toList)) : c = .string (T l) := by
  cases h2
  simpa using h1
theorem count_read {w : World} {base : Nat} {spare : Nat → Bool} {held : Bool} {fuel : Nat} {cs : List Value} {a b : Int} {y : DataW Unit × List MemPlace} (hf : DataW.trod (H := Unit) (fun _ => ()) Tryd.prog w base spare held fuel 78 cs = some y) (hy : y.1 = .agg [.lit (.int .i64 a), .lit (.int .i64 b)]) :
    cs = [.int .i64 a, .int .i64 b] := by
  obtain ⟨f0, f1, hu, ⟨t0, o0⟩, ⟨t1, o1⟩⟩ := count_struct
  obtain ⟨y0, y1, n, rfl, hl, h0, h1⟩ := trod_struct2 hu hf
  rw [shape_cells.2.1] at hl
  rw [t0, o0, shape_cells.2.2.1] at h0
  rw [t1, o1, shape_cells.2.2.1] at h1
  match cs, hl with
  | [c0, c1], _ =>
    simp only [List.drop_zero, List.drop_succ_cons, List.take_succ_cons, List.take_zero] at h0 h1
    obtain ⟨z, hz, hx, -⟩ := DataW.trod_int Tryd.underlying3 h0
    obtain ⟨z2, hz2, hx2, -⟩ := DataW.trod_int Tryd.underlying3 h1
    subst hx hx2
    simp only [DataW.agg.injEq, List.cons.injEq, DataW.lit.injEq, Lit.int.injEq, true_and, and_true] at hy
    obtain ⟨rfl, rfl⟩ := hy
    obtain rfl : c0 = .int .i64 z := by simpa using hz
    obtain rfl : c1 = .int .i64 z2 := by simpa using hz2
    rfl
theorem shape_read {w : World} {base : Nat} {spare : Nat → Bool} {held : Bool} {fuel : Nat} {cs : List Value} {s : Sh} {y : DataW Unit × List MemPlace} (hf : DataW.trod (H := Unit) (fun _ => ()) Tryd.prog w base spare held fuel 80 cs = some y)
    (hy : y.1 = .agg [.lit (.string s.op), .agg [.lit (.int .i64 s.k0), .lit (.int .i64 s.k1)], .agg [.lit (.int .i64 s.w0), .lit (.int .i64 s.w1)], .lit (.bool s.name), .lit (.bool s.pats), .lit (.bool s.assigns), .lit (.bool s.redirs)]) :
    cs = [txt s.op, .int .i64 s.k0, .int .i64 s.k1, .int .i64 s.w0, .int .i64 s.w1, .bool s.name, .bool s.pats, .bool s.assigns, .bool s.redirs] := by
  obtain ⟨f0, f1, f2, f3, f4, f5, f6, hu, ⟨t0, o0⟩, ⟨t1, o1⟩, ⟨t2, o2⟩, ⟨t3, o3⟩, ⟨t4, o4⟩, ⟨t5, o5⟩, ⟨t6, o6⟩⟩ := shape_struct
  obtain ⟨y0, y1, y2, y3, y4, y5, y6, n, hx, hl, h0, h1, h2, h3, h4, h5, h6⟩ := trod_struct7 hu hf
  rw [hx] at hy
  simp only [DataW.agg.injEq, List.cons.injEq, and_true] at hy
  obtain ⟨g0, g1, g2, g3, g4, g5, g6⟩ := hy
  rw [shape_cells.1] at hl
  rw [t0, o0, shape_cells.2.2.2.1] at h0
  rw [t1, o1, shape_cells.2.1] at h1
  rw [t2, o2, shape_cells.2.1] at h2
  rw [t3, o3, shape_cells.2.2.2.2] at h3
  rw [t4, o4, shape_cells.2.2.2.2] at h4
  rw [t5, o5, shape_cells.2.2.2.2] at h5
  rw [t6, o6, shape_cells.2.2.2.2] at h6
  match cs, hl with
  | [c0, c1, c2, c3, c4, c5, c6, c7, c8], _ =>
    simp only [List.drop_zero, List.drop_succ_cons, List.take_succ_cons, List.take_zero] at h0 h1 h2 h3 h4 h5 h6
    have r1 := count_read h1 g1
    have r2 := count_read h2 g2
    obtain ⟨z0, q0, x0, -⟩ := DataW.trod_string Tryd.underlying9 h0
    obtain ⟨z3, q3, x3⟩ := DataW.trod_bool Tryd.underlying4 h3
    obtain ⟨z4, q4, x4⟩ := DataW.trod_bool Tryd.underlying4 h4
    obtain ⟨z5, q5, x5⟩ := DataW.trod_bool Tryd.underlying4 h5
    obtain ⟨z6, q6, x6⟩ := DataW.trod_bool Tryd.underlying4 h6
    subst x0 x3 x4 x5 x6
    simp only [DataW.lit.injEq, Lit.bool.injEq] at g3 g4 g5 g6
    have r0 := one_lit q0 g0.symm
    subst g3 g4 g5 g6
    simp only [List.cons.injEq, and_true] at r1 r2 q3 q4 q5 q6
    obtain ⟨rfl, rfl⟩ := r1
    obtain ⟨rfl, rfl⟩ := r2
    rw [r0, q3, q4, q5, q6]
    rfl
theorem cells_get : ∀ (l : List Sh) (k i : Nat) (s : Sh), l[k]? = some s → i < 9 → (l.flatMap fun s => [txt s.op, .int .i64 s.k0, .int .i64 s.k1, .int .i64 s.w0, .int .i64 s.w1, .bool s.name, .bool s.pats, .bool s.assigns, .bool s.redirs])[k * 9 + i]? = [txt s.op, .int .i64 s.k0, .int .i64 s.k1, .int .i64 s.w0, .int .i64 s.w1, Value.bool s.name, .bool s.pats, .bool s.assigns, .bool s.redirs][i]?
  | [], _, _, _, h, _ => by simp at h
  | a :: l, 0, i, s, h, hi => by
    obtain rfl := Option.some.inj h
    rw [List.flatMap_cons, Nat.zero_mul, Nat.zero_add, List.getElem?_append_left (by simpa using hi)]
  | a :: l, k + 1, i, s, h, hi => by
    rw [List.flatMap_cons, List.getElem?_append_right (by simp; omega)]
    have := cells_get l k i s h hi
    rw [← this]
    congr 1
    simp; omega
set_option maxRecDepth 100000 in
theorem shapes_of_reads {w : World} (h : Lib.VarReads Tryd.prog w "lazarus/tree.shapes" Rows.laid_lazarus_tree_shapes) : Shapes w := by
  obtain ⟨g, t, cs, fuel, p, hg, hty, hvar, hd⟩ := h
  obtain rfl := Option.some.inj (shape_named.symm.trans hg)
  obtain rfl := Option.some.inj (shape_type.symm.trans hty)
  rw [shape_data] at hd
  have key : ∀ k s, shapesL[k]? = some s → ∀ i, i < 9 → cs.toList[k * 9 + i]? = [txt s.op, .int .i64 s.k0, .int .i64 s.k1, .int .i64 s.w0, .int .i64 s.w1, Value.bool s.name, .bool s.pats, .bool s.assigns, .bool s.redirs][i]? := by
    intro k s hk i hi
    have hk14 : k < 14 := (List.getElem?_eq_some_iff.1 hk).1
    obtain ⟨fuel', d, q, hdi, he⟩ := Lib.array_elem Tryd.underlying81 hd k hk14
    rw [List.getElem?_map, hk] at hdi
    have hd2 := Option.some.inj hdi
    have hr := shape_read (s := s) he hd2.symm
    rw [shape_cells.1] at hr
    have := congrArg (·[i]?) hr
    simp only [List.getElem?_take, List.getElem?_drop, hi, if_true] at this
    exact this
  intro j v hj
  have hjl : j < 126 := (List.getElem?_eq_some_iff.1 hj).1
  have hk : j / 9 < shapesL.length := by show j / 9 < 14; omega
  have hs : shapesL[j / 9]? = some (shapesL[j / 9]) := List.getElem?_eq_getElem hk
  have e : j / 9 * 9 + j % 9 = j := by omega
  have h1 := key (j / 9) _ hs (j % 9) (by omega)
  have h2 := cells_get shapesL (j / 9) (j % 9) _ hs (by omega)
  rw [e] at h1 h2
  have hv := World.var?_cell hg hvar j
  rw [Nat.zero_add, hv, ← Array.getElem?_toList, h1, ← h2]
  exact hj
theorem shapes_of_laidH {W : World} (h : laidMetH Tryd.prog shapeL W) : Shapes W := by
  rw [MakeChecks.laidMetH_plain _ _ _ (by kernel_rfl)] at h
  exact shapes_of_reads (Lib.laidMet.reads h (by simp [shapeL]))
end Go.Proofs.YtloaalapkmbgeaaDoor
