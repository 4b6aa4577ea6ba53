/-
  Proved: texts joined: Proved: the last step of a law that has changed nothing. Conditions: as the rows say.
  Proved: what each row of chapter 9's cards takes of its listed variables. Conditions: as the rows say.
  Proved: what a row gives of an argument that is a script: its nodes lie in memory, its rows and texts are short. Conditions: the row's own bound.
  Proved: what the rows of chapter 9's cards that list the library's tables take of their listed variables. Conditions: as the rows say.
  Proved: the given card of the law TreeIs, where what it reads is of bulk at most 1048576: for such a script the law answers true and changes nothing. Conditions: the row's own (its bound; the listed variables start as the program's text lays them; the card ties them).
-/
import Derived.Test.YtloaalapkmbgeaaDoorRows
import Derived.Below
import Derived.Carry
import Derived.ProofKit
import Derived.OpenShut
import Derived.Test.YtloaalapkmbgeaaDoorCards
import Derived.Test.YtloaalapkmbgeaaDoorTie
import Derived.Test.YtloaalapkmbgeaaDoorTreeFits0
import Derived.Lib.LaidU8
import Derived.LaidMore
import Derived.Lay
import Derived.Stop.Joined
import Derived.Stop.LaidErr
import Derived.Deep.Fields
import Derived.Deep.Slices
import Derived.Test.YtloaalapkmbgeaaDoorTreeIsWalks
import Derived.Lib.SmallJoins
import Derived.Test.YtloaalapkmbgeaaDoorGlyphTabs
import Derived.Deep.DeepHandedRow
namespace Go.Proofs.YtloaalapkmbgeaaDoor
open Go Go.ChangeShapes Go.WideShapes Go.ChangeAt Go.WideMaps Go.WideElems Go.RowKit

theorem own : ownKnob Tryd.prog.godebug = none := by kernel_rfl
theorem laidOut : laidOutB Tryd.prog = true := by kernel_rfl

section
variable {H : Type} {enc : TypeId × Value → H} {P : Program}

theorem trodAll_stays (hl : laidOutB P = true) {W W' : World} (hb : Below W.heap.size W W') : ∀ {ts : List TypeId} {vs : List Value} {ds : List (DataW H)} {ps : List MemPlace},
    (∀ t ∈ ts, P.readableRec t = true ∧ t < P.types.size) → (∀ x ∈ ps, x.block < W.heap.size) → DataW.TrodAll enc P W 0 (fun _ => true) true ts vs ds ps → DataW.TrodAll enc P W' 0 (fun b => decide (b < W.heap.size)) true ts vs ds ps
  | [], vs, ds, ps, _, _, h => by
    obtain ⟨rfl, rfl, rfl⟩ := trodAll_nil h
    exact trodAll_mk0
  | t :: ts, vs, ds, ps, ht, hp, h => by
    obtain ⟨v0, vs0, d0, ds0, p0, q0, rfl, rfl, rfl, h0, r0⟩ := trodAll_cons h
    exact trodAll_cons_mk (hb.trod hl (ht t (by simp)).1 (ht t (by simp)).2 h0 (fun x hx => hp x (by simp [hx])))
      (trodAll_stays hl hb (fun t' h' => ht t' (by simp [h'])) (fun x hx => hp x (by simp [hx])) r0)

/-- A LAW's LAST STEP: it answered true, and of what was there nothing has turned. -/
theorem law_post {f : Func} {s : ChangeSpec} {W W' : World} {args : Array Value} {ds gs : List (DataW H)} {before : List MemPlace} {tb : TypeId} (hl : laidOutB P = true) (hts : ∀ t ∈ f.params.toList, P.readableRec t = true ∧ t < P.types.size)
    (hrt : f.resultTypes = #[tb]) (h4 : P.underlying tb = some .bool) (hvars : s.vars = []) (hW : DataW.Whole enc P f.params.toList s.vars false W args.toList ds gs before)
    (hfn : s.fn H (ds ++ gs) = { results := [.lit (.bool true)], args := ds }) (hb : Below W.heap.size W W') : s.post enc P f false true false false W args (.bool true) W' := by
  have hW' := hW
  obtain ⟨p, q, hA, hV, hbe, hfz, hnd⟩ := hW
  rw [hvars] at hV
  obtain ⟨rfl, rfl⟩ := trodVars_none hV
  have hlt : ∀ x ∈ before, x.block < W.heap.size := fun x hx => hW'.lt x hx
  have hbp : before = p := by rw [hbe]; simp
  subst hbp
  refine ⟨ds, [], before, [], before, [], hW', ?_, ?_, ?_, ?_, fun h => by cases h⟩
  · rw [hfn, hrt]; exact trodAll_mk1 (shut_bool h4 true)
  · rw [hfn]; exact trodAll_stays hl hb hts hlt hA
  · rw [hfn, hvars]; exact hV
  · exact World.keptBut_mono (fun x hx => ⟨hx, .inr (.inl hx)⟩) (hb.frame (· ∈ before))
end

end Go.Proofs.YtloaalapkmbgeaaDoor

namespace Go.Proofs.YtloaalapkmbgeaaDoor
open Go Go.ChangeShapes Go.WideShapes Go.ChangeAt Go.WideMaps Go.WideElems Go.RowKit GlyphMath LexMath TreeMath

def shapeL : List (String × DataW Unit) := [("lazarus/tree.shapes", Rows.laid_lazarus_tree_shapes)]
theorem shape_data : (Rows.laid_lazarus_tree_shapes : DataW Unit) = .agg (shapesL.map fun s => .agg [.lit (.string s.op), .agg [.lit (.int .i64 s.k0), .lit (.int .i64 s.k1)], .agg [.lit (.int .i64 s.w0), .lit (.int .i64 s.w1)], .lit (.bool s.name), .lit (.bool s.pats), .lit (.bool s.assigns), .lit (.bool s.redirs)]) := by kernel_rfl
theorem shape_named : Tryd.prog.globalNamed "lazarus/tree.shapes" = some 0 := by kernel_rfl
theorem shape_type : (Tryd.prog.globals[0]?).map (·.type) = some 81 := by kernel_rfl
theorem shape_struct : ∃ f0 f1 f2 f3 f4 f5 f6 : Field, Tryd.prog.underlying 80 = some (.struct #[f0, f1, f2, f3, f4, f5, f6]) ∧ (f0.type = 9 ∧ f0.offset = 0) ∧ (f1.type = 78 ∧ f1.offset = 1) ∧ (f2.type = 78 ∧ f2.offset = 3) ∧ (f3.type = 4 ∧ f3.offset = 5) ∧ (f4.type = 4 ∧ f4.offset = 6) ∧ (f5.type = 4 ∧ f5.offset = 7) ∧ (f6.type = 4 ∧ f6.offset = 8) :=
  ⟨_, _, _, _, _, _, _, Tryd.underlying80, ⟨rfl, rfl⟩, ⟨rfl, rfl⟩, ⟨rfl, rfl⟩, ⟨rfl, rfl⟩, ⟨rfl, rfl⟩, ⟨rfl, rfl⟩, ⟨rfl, rfl⟩⟩
theorem count_struct : ∃ f0 f1 : Field, Tryd.prog.underlying 78 = some (.struct #[f0, f1]) ∧ (f0.type = 3 ∧ f0.offset = 0) ∧ (f1.type = 3 ∧ f1.offset = 1) :=
  ⟨_, _, Tryd.underlying78, ⟨rfl, rfl⟩, ⟨rfl, rfl⟩⟩
theorem shape_cells : Tryd.prog.cellsOf 80 = 9 ∧ Tryd.prog.cellsOf 78 = 2 ∧ Tryd.prog.cellsOf 3 = 1 ∧ Tryd.prog.cellsOf 9 = 1 ∧ Tryd.prog.cellsOf 4 = 1 := ⟨by kernel_rfl, by kernel_rfl, by kernel_rfl, by kernel_rfl, by kernel_rfl⟩

section
variable {H : Type} {enc : TypeId × Value → H} {P : Program} {w : World} {base : Nat} {spare : Nat → Bool} {held : Bool}
theorem trod_struct7 {t : TypeId} {f0 f1 f2 f3 f4 f5 f6 : Field} {fuel : Nat} {cs : List Value} {x : DataW H × List MemPlace} (ht : P.underlying t = some (.struct #[f0, f1, f2, f3, f4, f5, f6])) (h : DataW.trod enc P w base spare held fuel t cs = some x) :
    ∃ y0 y1 y2 y3 y4 y5 y6 n, x.1 = .agg [y0.1, y1.1, y2.1, y3.1, y4.1, y5.1, y6.1] ∧ cs.length = P.cellsOf t ∧ DataW.trod enc P w base spare held n f0.type ((cs.drop f0.offset).take (P.cellsOf f0.type)) = some y0 ∧
      DataW.trod enc P w base spare held n f1.type ((cs.drop f1.offset).take (P.cellsOf f1.type)) = some y1 ∧ DataW.trod enc P w base spare held n f2.type ((cs.drop f2.offset).take (P.cellsOf f2.type)) = some y2 ∧
      DataW.trod enc P w base spare held n f3.type ((cs.drop f3.offset).take (P.cellsOf f3.type)) = some y3 ∧ DataW.trod enc P w base spare held n f4.type ((cs.drop f4.offset).take (P.cellsOf f4.type)) = some y4 ∧
      DataW.trod enc P w base spare held n f5.type ((cs.drop f5.offset).take (P.cellsOf f5.type)) = some y5 ∧ DataW.trod enc P w base spare held n f6.type ((cs.drop f6.offset).take (P.cellsOf f6.type)) = some y6 := by
  obtain ⟨xs, n, _, rfl, hl, hlen, hf⟩ := DataW.trod_struct ht h
  match xs, hlen with
  | [y0, y1, y2, y3, y4, y5, y6], _ => exact ⟨y0, y1, y2, y3, y4, y5, y6, n, rfl, hl, by simpa using hf 0 f0 rfl, by simpa using hf 1 f1 rfl, by simpa using hf 2 f2 rfl, by simpa using hf 3 f3 rfl, by simpa using hf 4 f4 rfl, by simpa using hf 5 f5 rfl, by simpa using hf 6 f6 rfl⟩
end
theorem one_lit {c : Value} {s : ByteArray} {l : List UInt8} (h1 : [c] = [.string s]) (h2 : (DataW.lit (.string l) : DataW Unit) = .lit (.string s.data.toList)) : c = .string (T l) := by
  cases h2
  simpa using h1
theorem count_read {w : World} {base : Nat} {spare : Nat → Bool} {held : Bool} {fuel : Nat} {cs : List Value} {a b : Int} {y : DataW Unit × List MemPlace} (hf : DataW.trod (H := Unit) (fun _ => ()) Tryd.prog w base spare held fuel 78 cs = some y) (hy : y.1 = .agg [.lit (.int .i64 a), .lit (.int .i64 b)]) :
    cs = [.int .i64 a, .int .i64 b] := by
  obtain ⟨f0, f1, hu, ⟨t0, o0⟩, ⟨t1, o1⟩⟩ := count_struct
  obtain ⟨y0, y1, n, rfl, hl, h0, h1⟩ := trod_struct2 hu hf
  rw [shape_cells.2.1] at hl
  rw [t0, o0, shape_cells.2.2.1] at h0
  rw [t1, o1, shape_cells.2.2.1] at h1
  match cs, hl with
  | [c0, c1], _ =>
    simp only [List.drop_zero, List.drop_succ_cons, List.take_succ_cons, List.take_zero] at h0 h1
    obtain ⟨z, hz, hx, -⟩ := DataW.trod_int Tryd.underlying3 h0
    obtain ⟨z2, hz2, hx2, -⟩ := DataW.trod_int Tryd.underlying3 h1
    subst hx hx2
    simp only [DataW.agg.injEq, List.cons.injEq, DataW.lit.injEq, Lit.int.injEq, true_and, and_true] at hy
    obtain ⟨rfl, rfl⟩ := hy
    obtain rfl : c0 = .int .i64 z := by simpa using hz
    obtain rfl : c1 = .int .i64 z2 := by simpa using hz2
    rfl
theorem shape_read {w : World} {base : Nat} {spare : Nat → Bool} {held : Bool} {fuel : Nat} {cs : List Value} {s : Sh} {y : DataW Unit × List MemPlace} (hf : DataW.trod (H := Unit) (fun _ => ()) Tryd.prog w base spare held fuel 80 cs = some y)
    (hy : y.1 = .agg [.lit (.string s.op), .agg [.lit (.int .i64 s.k0), .lit (.int .i64 s.k1)], .agg [.lit (.int .i64 s.w0), .lit (.int .i64 s.w1)], .lit (.bool s.name), .lit (.bool s.pats), .lit (.bool s.assigns), .lit (.bool s.redirs)]) :
    cs = [txt s.op, .int .i64 s.k0, .int .i64 s.k1, .int .i64 s.w0, .int .i64 s.w1, .bool s.name, .bool s.pats, .bool s.assigns, .bool s.redirs] := by
  obtain ⟨f0, f1, f2, f3, f4, f5, f6, hu, ⟨t0, o0⟩, ⟨t1, o1⟩, ⟨t2, o2⟩, ⟨t3, o3⟩, ⟨t4, o4⟩, ⟨t5, o5⟩, ⟨t6, o6⟩⟩ := shape_struct
  obtain ⟨y0, y1, y2, y3, y4, y5, y6, n, hx, hl, h0, h1, h2, h3, h4, h5, h6⟩ := trod_struct7 hu hf
  rw [hx] at hy
  simp only [DataW.agg.injEq, List.cons.injEq, and_true] at hy
  obtain ⟨g0, g1, g2, g3, g4, g5, g6⟩ := hy
  rw [shape_cells.1] at hl
  rw [t0, o0, shape_cells.2.2.2.1] at h0
  rw [t1, o1, shape_cells.2.1] at h1
  rw [t2, o2, shape_cells.2.1] at h2
  rw [t3, o3, shape_cells.2.2.2.2] at h3
  rw [t4, o4, shape_cells.2.2.2.2] at h4
  rw [t5, o5, shape_cells.2.2.2.2] at h5
  rw [t6, o6, shape_cells.2.2.2.2] at h6
  match cs, hl with
  | [c0, c1, c2, c3, c4, c5, c6, c7, c8], _ =>
    simp only [List.drop_zero, List.drop_succ_cons, List.take_succ_cons, List.take_zero] at h0 h1 h2 h3 h4 h5 h6
    have r1 := count_read h1 g1
    have r2 := count_read h2 g2
    obtain ⟨z0, q0, x0, -⟩ := DataW.trod_string Tryd.underlying9 h0
    obtain ⟨z3, q3, x3⟩ := DataW.trod_bool Tryd.underlying4 h3
    obtain ⟨z4, q4, x4⟩ := DataW.trod_bool Tryd.underlying4 h4
    obtain ⟨z5, q5, x5⟩ := DataW.trod_bool Tryd.underlying4 h5
    obtain ⟨z6, q6, x6⟩ := DataW.trod_bool Tryd.underlying4 h6
    subst x0 x3 x4 x5 x6
    simp only [DataW.lit.injEq, Lit.bool.injEq] at g3 g4 g5 g6
    have r0 := one_lit q0 g0.symm
    subst g3 g4 g5 g6
    simp only [List.cons.injEq, and_true] at r1 r2 q3 q4 q5 q6
    obtain ⟨rfl, rfl⟩ := r1
    obtain ⟨rfl, rfl⟩ := r2
    rw [r0, q3, q4, q5, q6]
    rfl
theorem cells_get : ∀ (l : List Sh) (k i : Nat) (s : Sh), l[k]? = some s → i < 9 → (l.flatMap fun s => [txt s.op, .int .i64 s.k0, .int .i64 s.k1, .int .i64 s.w0, .int .i64 s.w1, .bool s.name, .bool s.pats, .bool s.assigns, .bool s.redirs])[k * 9 + i]? = [txt s.op, .int .i64 s.k0, .int .i64 s.k1, .int .i64 s.w0, .int .i64 s.w1, Value.bool s.name, .bool s.pats, .bool s.assigns, .bool s.redirs][i]?
  | [], _, _, _, h, _ => by simp at h
  | a :: l, 0, i, s, h, hi => by
    obtain rfl := Option.some.inj h
    rw [List.flatMap_cons, Nat.zero_mul, Nat.zero_add, List.getElem?_append_left (by simpa using hi)]
  | a :: l, k + 1, i, s, h, hi => by
    rw [List.flatMap_cons, List.getElem?_append_right (by simp; omega)]
    have := cells_get l k i s h hi
    rw [← this]
    congr 1
    simp; omega
set_option maxRecDepth 100000 in
theorem shapes_of_reads {w : World} (h : Lib.VarReads Tryd.prog w "lazarus/tree.shapes" Rows.laid_lazarus_tree_shapes) : Shapes w := by
  obtain ⟨g, t, cs, fuel, p, hg, hty, hvar, hd⟩ := h
  obtain rfl := Option.some.inj (shape_named.symm.trans hg)
  obtain rfl := Option.some.inj (shape_type.symm.trans hty)
  rw [shape_data] at hd
  have key : ∀ k s, shapesL[k]? = some s → ∀ i, i < 9 → cs.toList[k * 9 + i]? = [txt s.op, .int .i64 s.k0, .int .i64 s.k1, .int .i64 s.w0, .int .i64 s.w1, Value.bool s.name, .bool s.pats, .bool s.assigns, .bool s.redirs][i]? := by
    intro k s hk i hi
    have hk14 : k < 14 := (List.getElem?_eq_some_iff.1 hk).1
    obtain ⟨fuel', d, q, hdi, he⟩ := Lib.array_elem Tryd.underlying81 hd k hk14
    rw [List.getElem?_map, hk] at hdi
    have hd2 := Option.some.inj hdi
    have hr := shape_read (s := s) he hd2.symm
    rw [shape_cells.1] at hr
    have := congrArg (·[i]?) hr
    simp only [List.getElem?_take, List.getElem?_drop, hi, if_true] at this
    exact this
  intro j v hj
  have hjl : j < 126 := (List.getElem?_eq_some_iff.1 hj).1
  have hk : j / 9 < shapesL.length := by show j / 9 < 14; omega
  have hs : shapesL[j / 9]? = some (shapesL[j / 9]) := List.getElem?_eq_getElem hk
  have e : j / 9 * 9 + j % 9 = j := by omega
  have h1 := key (j / 9) _ hs (j % 9) (by omega)
  have h2 := cells_get shapesL (j / 9) (j % 9) _ hs (by omega)
  rw [e] at h1 h2
  have hv := World.var?_cell hg hvar j
  rw [Nat.zero_add, hv, ← Array.getElem?_toList, h1, ← h2]
  exact hj
theorem shapes_of_laidH {W : World} (h : laidMetH Tryd.prog shapeL W) : Shapes W := by
  rw [MakeChecks.laidMetH_plain _ _ _ (by kernel_rfl)] at h
  exact shapes_of_reads (Lib.laidMet.reads h (by simp [shapeL]))
end Go.Proofs.YtloaalapkmbgeaaDoor

namespace Go.Proofs.YtloaalapkmbgeaaDoor
open Go Go.ChangeShapes Go.WideShapes Go.ChangeAt Go.WideMaps Go.WideElems Go.RowKit Go.Deep GlyphMath LexMath TreeMath

theorem cells_of : Tryd.prog.cellsOf 30 = 5 ∧ Tryd.prog.cellsOf 33 = 1 ∧ Tryd.prog.cellsOf 86 = 2 ∧ Tryd.prog.cellsOf 90 = 2 ∧ Tryd.prog.cellsOf 49 = 7 ∧ Tryd.prog.cellsOf 24 = 2 :=
  ⟨by kernel_rfl, by kernel_rfl, by kernel_rfl, by kernel_rfl, by kernel_rfl, by kernel_rfl⟩
theorem cells_rows : Tryd.prog.cellsOf 3 = 1 ∧ Tryd.prog.cellsOf 9 = 1 ∧ Tryd.prog.cellsOf 4 = 1 ∧ Tryd.prog.cellsOf 28 = 1 ∧ Tryd.prog.cellsOf 44 = 1 ∧ Tryd.prog.cellsOf 45 = 1 ∧ Tryd.prog.cellsOf 46 = 1 ∧ Tryd.prog.cellsOf 47 = 1 ∧ Tryd.prog.cellsOf 22 = 1 ∧ Tryd.prog.cellsOf 43 = 1 :=
  ⟨by kernel_rfl, by kernel_rfl, by kernel_rfl, by kernel_rfl, by kernel_rfl, by kernel_rfl, by kernel_rfl, by kernel_rfl, by kernel_rfl, by kernel_rfl⟩
theorem part_struct : ∃ f0 f1 f2 f3 f4 : Field, Tryd.prog.underlying 30 = some (.struct #[f0, f1, f2, f3, f4]) ∧ (f0.type = 3 ∧ f0.offset = 0) ∧ (f1.type = 9 ∧ f1.offset = 1) ∧ (f2.type = 9 ∧ f2.offset = 2) ∧ (f3.type = 28 ∧ f3.offset = 3) ∧ (f4.type = 4 ∧ f4.offset = 4) :=
  ⟨_, _, _, _, _, Tryd.underlying30, ⟨rfl, rfl⟩, ⟨rfl, rfl⟩, ⟨rfl, rfl⟩, ⟨rfl, rfl⟩, ⟨rfl, rfl⟩⟩
theorem word_struct : ∃ f0 : Field, Tryd.prog.underlying 33 = some (.struct #[f0]) ∧ (f0.type = 28 ∧ f0.offset = 0) := ⟨_, Tryd.underlying33, ⟨rfl, rfl⟩⟩
theorem assign_struct : ∃ f0 f1 : Field, Tryd.prog.underlying 86 = some (.struct #[f0, f1]) ∧ (f0.type = 9 ∧ f0.offset = 0) ∧ (f1.type = 33 ∧ f1.offset = 1) := ⟨_, _, Tryd.underlying86, ⟨rfl, rfl⟩, ⟨rfl, rfl⟩⟩
theorem redir_struct : ∃ f0 f1 : Field, Tryd.prog.underlying 90 = some (.struct #[f0, f1]) ∧ (f0.type = 9 ∧ f0.offset = 0) ∧ (f1.type = 33 ∧ f1.offset = 1) := ⟨_, _, Tryd.underlying90, ⟨rfl, rfl⟩, ⟨rfl, rfl⟩⟩
theorem prog_struct : ∃ f0 f1 : Field, Tryd.prog.underlying 24 = some (.struct #[f0, f1]) ∧ (f0.type = 22 ∧ f0.offset = 0) ∧ (f1.type = 3 ∧ f1.offset = 1) := ⟨_, _, Tryd.underlying24, ⟨rfl, rfl⟩, ⟨rfl, rfl⟩⟩
theorem node_struct : ∃ f0 f1 f2 f3 f4 f5 f6 : Field, Tryd.prog.underlying 49 = some (.struct #[f0, f1, f2, f3, f4, f5, f6]) ∧ (f0.type = 9 ∧ f0.offset = 0) ∧ (f1.type = 9 ∧ f1.offset = 1) ∧ (f2.type = 43 ∧ f2.offset = 2) ∧ (f3.type = 44 ∧ f3.offset = 3) ∧ (f4.type = 45 ∧ f4.offset = 4) ∧ (f5.type = 46 ∧ f5.offset = 5) ∧ (f6.type = 47 ∧ f6.offset = 6) :=
  ⟨_, _, _, _, _, _, _, Tryd.underlying49, ⟨rfl, rfl⟩, ⟨rfl, rfl⟩, ⟨rfl, rfl⟩, ⟨rfl, rfl⟩, ⟨rfl, rfl⟩, ⟨rfl, rfl⟩, ⟨rfl, rfl⟩⟩

section
variable {H : Type}
theorem bulk_one (d : DataW H) : 1 ≤ Rows.uptoBulk d := by
  cases d with
  | lit l => cases l <;> simp [Rows.uptoBulk]
  | _ => simp [Rows.uptoBulk]
theorem bulk_mem {d : DataW H} : ∀ {l : List (DataW H)}, d ∈ l → Rows.uptoBulk d ≤ Rows.uptoBulkAll l
  | x :: r, h => by
    simp only [Rows.uptoBulkAll]
    rcases List.mem_cons.1 h with rfl | h
    · omega
    · have := bulk_mem h; omega
theorem bulk_len : ∀ l : List (DataW H), l.length ≤ Rows.uptoBulkAll l
  | [] => by simp [Rows.uptoBulkAll]
  | x :: r => by
    have h1 := bulk_one x
    have h2 := bulk_len r
    simp only [Rows.uptoBulkAll, List.length_cons]; omega
theorem bulk_agg {d : DataW H} {l : List (DataW H)} (h : d ∈ l) : Rows.uptoBulk d < Rows.uptoBulk (.agg l) := by
  have := bulk_mem h
  simp only [Rows.uptoBulk]; omega
theorem bulk_slice {d : DataW H} {l s : List (DataW H)} (h : d ∈ l) : Rows.uptoBulk d < Rows.uptoBulk (.slice l s) := by
  have := bulk_mem h
  simp only [Rows.uptoBulk]; omega
theorem bulk_slice_len (l s : List (DataW H)) : l.length < Rows.uptoBulk (.slice l s) := by
  have := bulk_len l
  simp only [Rows.uptoBulk]; omega
theorem bulk_text (l : List UInt8) : Rows.uptoBulk (DataW.lit (H := H) (.string l)) = l.length + 1 := by simp [Rows.uptoBulk]
end

section
variable {H : Type} {enc : TypeId × Value → H} {W : World}
/-- A reading. -/
abbrev Rd1 (enc : TypeId × Value → H) (W : World) (fuel : Nat) (t : TypeId) (cs : List Value) (x : DataW H × List MemPlace) : Prop := DataW.trod enc Tryd.prog W 0 (fun _ => true) true fuel t cs = some x

theorem read_struct1 {t : TypeId} {f0 : Field} {fuel : Nat} {cs : List Value} {x : DataW H × List MemPlace} (ht : Tryd.prog.underlying t = some (.struct #[f0])) (h : Rd1 enc W fuel t cs x) :
    ∃ y0 n, x.1 = .agg [y0.1] ∧ cs.length = Tryd.prog.cellsOf t ∧ Rd1 enc W n f0.type ((cs.drop f0.offset).take (Tryd.prog.cellsOf f0.type)) y0 := by
  obtain ⟨xs, n, _, rfl, hl, hlen, hf⟩ := DataW.trod_struct ht h
  match xs, hlen with
  | [y0], _ => exact ⟨y0, n, rfl, hl, by simpa using hf 0 f0 rfl⟩
theorem read_struct5 {t : TypeId} {f0 f1 f2 f3 f4 : Field} {fuel : Nat} {cs : List Value} {x : DataW H × List MemPlace} (ht : Tryd.prog.underlying t = some (.struct #[f0, f1, f2, f3, f4])) (h : Rd1 enc W fuel t cs x) :
    ∃ y0 y1 y2 y3 y4 n, x.1 = .agg [y0.1, y1.1, y2.1, y3.1, y4.1] ∧ cs.length = Tryd.prog.cellsOf t ∧ Rd1 enc W n f0.type ((cs.drop f0.offset).take (Tryd.prog.cellsOf f0.type)) y0 ∧ Rd1 enc W n f1.type ((cs.drop f1.offset).take (Tryd.prog.cellsOf f1.type)) y1 ∧ Rd1 enc W n f2.type ((cs.drop f2.offset).take (Tryd.prog.cellsOf f2.type)) y2 ∧ Rd1 enc W n f3.type ((cs.drop f3.offset).take (Tryd.prog.cellsOf f3.type)) y3 ∧ Rd1 enc W n f4.type ((cs.drop f4.offset).take (Tryd.prog.cellsOf f4.type)) y4 := by
  obtain ⟨xs, n, _, rfl, hl, hlen, hf⟩ := DataW.trod_struct ht h
  match xs, hlen with
  | [y0, y1, y2, y3, y4], _ => exact ⟨y0, y1, y2, y3, y4, n, rfl, hl, by simpa using hf 0 f0 rfl, by simpa using hf 1 f1 rfl, by simpa using hf 2 f2 rfl, by simpa using hf 3 f3 rfl, by simpa using hf 4 f4 rfl⟩

theorem sl_list {α : Type} {a : Addr} {sz : Nat} {P : α → List Value → Prop} : ∀ (len : Nat), (∀ i, i < len → ∃ (y : α) (cs : List Value), cs.length = sz ∧ (∀ k, k < sz → W.cell? ((a.add (i * sz)).add k) = cs[k]?) ∧ P y cs) →
    ∃ l : List α, l.length = len ∧ ∀ i y, l[i]? = some y → ∃ cs : List Value, cs.length = sz ∧ (∀ k, k < sz → W.cell? ((a.add (i * sz)).add k) = cs[k]?) ∧ P y cs
  | 0, _ => ⟨[], rfl, fun i y h => by simp at h⟩
  | len + 1, h => by
    obtain ⟨l, hl, hh⟩ := sl_list len fun i hi => h i (by omega)
    obtain ⟨y, cs, h1, h2, h3⟩ := h len (by omega)
    refine ⟨l ++ [y], by simp [hl], fun i z hz => ?_⟩
    by_cases hi : i < len
    · rw [List.getElem?_append_left (by omega)] at hz
      exact hh i z hz
    · have hi2 : i < (l ++ [y]).length := (List.getElem?_eq_some_iff.1 hz).1
      rw [List.length_append, List.length_singleton, hl] at hi2
      obtain rfl : i = len := by omega
      rw [List.getElem?_append_right (by omega), hl, Nat.sub_self] at hz
      obtain rfl := Option.some.inj hz
      exact ⟨cs, h1, h2, h3⟩
theorem add_cell (b o n : Nat) : (⟨b, o, none⟩ : Addr).add n = ⟨b, o + n, none⟩ := by
  unfold Addr.add
  split
  · rename_i h; subst h; rfl
  · rfl
/-- A row that has been read, by what its elements are. -/
theorem sl_open {α : Type} {t e : TypeId} {sz : Nat} (ht : Tryd.prog.underlying t = some (.slice e)) (hsz : Tryd.prog.cellsOf e = sz) (hp : 0 < sz) (P : α → List Value → Prop) {fuel : Nat} {v : Value} {x : DataW H × List MemPlace} (hf : Rd1 enc W fuel t [v] x)
    (hrd : ∀ n cs y, Rows.uptoBulk y.1 < Rows.uptoBulk x.1 → Rd1 enc W n e cs y → ∃ a : α, P a cs) : ∃ l : List α, SlAt W sz α P v l ∧ l.length ≤ Rows.uptoBulk x.1 := by
  rcases open_slice ht hf with ⟨hcs, -⟩ | ⟨a, len, cap, m, n, D, Pl, hcs, -, hl, hm, hmm, hxx, hx⟩
  · obtain rfl : v = .slice none 0 0 := by simpa using hcs
    exact ⟨[], SlAt.nil W sz P 0, by simp⟩
  · obtain rfl : v = .slice (some a) len cap := by simpa using hcs
    have hmc : m = cap := by rw [hmm]; rfl
    have hx1 : x.1 = .slice ((List.range len).map D) ((List.range (m - len)).map fun j => D (len + j)) := by rw [hxx]
    obtain ⟨l, hll, hh⟩ := sl_list (W := W) (a := a) (sz := sz) (P := P) len fun i hi => by
      obtain ⟨cs', h1, h2⟩ := hx i (by omega)
      rw [hsz] at h1
      obtain ⟨-, h3, h4⟩ := World.cells?_some h1
      obtain ⟨y, hy⟩ := hrd n cs' (D i, Pl i) (by rw [hx1]; exact bulk_slice (List.mem_map.2 ⟨i, List.mem_range.2 hi, rfl⟩)) h2
      exact ⟨y, cs', h3, h4, hy⟩
    have hb := bulk_slice_len ((List.range len).map D) ((List.range (m - len)).map fun j => D (len + j))
    rw [← hx1, List.length_map, List.length_range] at hb
    refine ⟨l, ⟨⟨some a, cap, by rw [hll], fun k y hk => ?_⟩, by omega⟩, by omega⟩
    obtain ⟨cs, h1, h2, h3⟩ := hh k y hk
    refine ⟨cs, ?_, h3⟩
    obtain ⟨b, o, spot⟩ := a
    have hspot : spot = none := by
      have hl0 : 0 < l.length := by have := (List.getElem?_eq_some_iff.1 hk).1; omega
      obtain ⟨cs0, g1, g2, -⟩ := hh 0 _ (List.getElem?_eq_getElem hl0)
      have h0 := g2 0 hp
      have hc : cs0[0]? = some (cs0[0]'(by omega)) := List.getElem?_eq_getElem _
      rw [hc, Nat.zero_mul] at h0
      have := World.cell?_spot h0
      simpa [Addr.add] using this
    subst hspot
    refine ⟨b, o, rfl, fun i u hu => ?_⟩
    have hi : i < sz := by have := (List.getElem?_eq_some_iff.1 hu).1; omega
    have := (h2 i hi).trans hu
    rwa [add_cell, add_cell] at this
theorem SlAt.turn {w : World} {size : Nat} {α : Type} {P Q : α → List Value → Prop} {v : Value} {l : List α} (h : SlAt w size α P v l) (hP : ∀ x cs, P x cs → Q x cs) : SlAt w size α Q v l := SlAt.below h (Below.refl _ w) hP
theorem SlAt.all {w : World} {size : Nat} {α : Type} {P : α → List Value → Prop} {v : Value} {l : List α} (h : SlAt w size α P v l) : ∀ x ∈ l, ∃ cs, P x cs := by
  obtain ⟨⟨p, c, -, hx⟩, -⟩ := h
  intro x hm
  obtain ⟨k, hk⟩ := List.mem_iff_getElem?.1 hm
  obtain ⟨cs, -, h2⟩ := hx k x hk
  exact ⟨cs, h2⟩

theorem text_read {fuel : Nat} {c : Value} {x : DataW H × List MemPlace} (h : Rd1 enc W fuel 9 [c] x) : ∃ l : List UInt8, c = txt l ∧ l.length < Rows.uptoBulk x.1 := by
  obtain ⟨s, hs, hx, -⟩ := DataW.trod_string Tryd.underlying9 h
  obtain rfl : c = .string s := by simpa using hs
  refine ⟨s.data.toList, rfl, ?_⟩
  rw [hx]
  show _ < Rows.uptoBulk (DataW.lit (.string s.data.toList))
  rw [bulk_text]; omega

theorem ps_read : ∀ (B fuel : Nat) (v : Value) (x : DataW H × List MemPlace), Rows.uptoBulk x.1 ≤ B → B ≤ 1048576 → Rd1 enc W fuel 28 [v] x → ∃ ps, PsAt W v ps ∧ Small ps
  | 0, _, _, x, h, _, _ => by have := bulk_one x.1; omega
  | B + 1, fuel, v, x, hB, hM, hf => by
    obtain ⟨l, hl, -⟩ := sl_open (α := Pt × Value) Tryd.underlying28 cells_of.1 (by decide) (fun a cs => cs = pcells a.1 a.2 ∧ PsAt W a.2 a.1.word ∧ a.1.text.length ≤ 1048576 ∧ Small a.1.word) hf fun n cs y hy hr => by
      obtain ⟨f0, f1, f2, f3, f4, hu, ⟨t0, o0⟩, ⟨t1, o1⟩, ⟨t2, o2⟩, ⟨t3, o3⟩, ⟨t4, o4⟩⟩ := part_struct
      obtain ⟨y0, y1, y2, y3, y4, m, hx, hlen, h0, h1, h2, h3, h4⟩ := read_struct5 hu hr
      rw [cells_of.1] at hlen
      rw [t0, o0, cells_rows.1] at h0
      rw [t1, o1, cells_rows.2.1] at h1
      rw [t2, o2, cells_rows.2.1] at h2
      rw [t3, o3, cells_rows.2.2.2.1] at h3
      rw [t4, o4, cells_rows.2.2.1] at h4
      match cs, hlen with
      | [c0, c1, c2, c3, c4], _ =>
        simp only [List.drop_zero, List.drop_succ_cons, List.take_succ_cons, List.take_zero] at h0 h1 h2 h3 h4
        obtain ⟨z, hz, -, -⟩ := DataW.trod_int Tryd.underlying3 h0
        obtain ⟨tx, rfl, htx⟩ := text_read h1
        obtain ⟨op, rfl, -⟩ := text_read h2
        obtain ⟨q, hq, -⟩ := DataW.trod_bool Tryd.underlying4 h4
        obtain rfl : c0 = .int .i64 z := by simpa using hz
        obtain rfl : c4 = .bool q := by simpa using hq
        have b1 : Rows.uptoBulk y1.1 < Rows.uptoBulk y.1 := by rw [hx]; exact bulk_agg (by simp)
        have b3 : Rows.uptoBulk y3.1 < Rows.uptoBulk y.1 := by rw [hx]; exact bulk_agg (by simp)
        obtain ⟨wd, h5, h6⟩ := ps_read B m c3 y3 (by omega) (by omega) h3
        exact ⟨(⟨z, tx, op, wd, q⟩, c3), rfl, h5, by show tx.length ≤ _; omega, h6⟩
    obtain ⟨⟨p, c, rfl, hx⟩, hfew⟩ := hl
    refine ⟨l.map (·.1), ?_, .mk _ (fun q hq => ?_) fun q hq => ?_⟩
    · have := PsAt.mk (w := W) p c (l.map (·.1)) (l.map (·.2)) (by simp) (by simpa using hfew) (fun k q u hq hu => by
        rw [List.getElem?_map] at hq hu
        cases hk : l[k]? with
        | none => rw [hk] at hq; cases hq
        | some a =>
          rw [hk] at hq hu
          obtain rfl := Option.some.inj hq
          obtain rfl := Option.some.inj hu
          obtain ⟨cs, h1, rfl, -⟩ := hx k a hk
          exact h1) (fun k q u hq hu => by
        rw [List.getElem?_map] at hq hu
        cases hk : l[k]? with
        | none => rw [hk] at hq; cases hq
        | some a =>
          rw [hk] at hq hu
          obtain rfl := Option.some.inj hq
          obtain rfl := Option.some.inj hu
          obtain ⟨cs, -, -, h2, -⟩ := hx k a hk
          exact h2)
      rwa [List.length_map] at this
    · obtain ⟨a, ha, rfl⟩ := List.mem_map.1 hq
      obtain ⟨k, hk⟩ := List.mem_iff_getElem?.1 ha
      obtain ⟨cs, -, -, -, h3, -⟩ := hx k a hk
      exact h3
    · obtain ⟨a, ha, rfl⟩ := List.mem_map.1 hq
      obtain ⟨k, hk⟩ := List.mem_iff_getElem?.1 ha
      obtain ⟨cs, -, -, -, -, h4⟩ := hx k a hk
      exact h4

theorem word_read {fuel : Nat} {cs : List Value} {x : DataW H × List MemPlace} (hB : Rows.uptoBulk x.1 ≤ 1048576) (h : Rd1 enc W fuel 33 cs x) : ∃ ps u, cs = [u] ∧ PsAt W u ps ∧ Small ps := by
  obtain ⟨f0, hu, ⟨t0, o0⟩⟩ := word_struct
  obtain ⟨y0, m, hx, hlen, h0⟩ := read_struct1 hu h
  rw [cells_of.2.1] at hlen
  rw [t0, o0, cells_rows.2.2.2.1] at h0
  match cs, hlen with
  | [c0], _ =>
    simp only [List.drop_zero, List.take_succ_cons, List.take_zero] at h0
    have b0 : Rows.uptoBulk y0.1 < Rows.uptoBulk x.1 := by rw [hx]; exact bulk_agg (by simp)
    obtain ⟨ps, h1, h2⟩ := ps_read 1048576 m c0 y0 (by omega) (by omega) h0
    exact ⟨ps, c0, rfl, h1, h2⟩
theorem ws_read {fuel : Nat} {v : Value} {x : DataW H × List MemPlace} (hB : Rows.uptoBulk x.1 ≤ 1048576) (h : Rd1 enc W fuel 44 [v] x) : ∃ l, WsAt W v l ∧ (∀ y ∈ l, Small y) ∧ l.length ≤ 1048576 := by
  obtain ⟨l, hl, hb⟩ := sl_open (α := List Pt) Tryd.underlying44 cells_of.2.1 (by decide) (fun a cs => (∃ u, cs = [u] ∧ PsAt W u a) ∧ Small a) h fun n cs y hy hr => by
    obtain ⟨ps, u, h1, h2, h3⟩ := word_read (by omega) hr
    exact ⟨ps, ⟨u, h1, h2⟩, h3⟩
  exact ⟨l, hl.turn fun x cs h => h.1, fun y hy => (hl.all y hy).elim fun cs h => h.2, by omega⟩
theorem pats_read {fuel : Nat} {v : Value} {x : DataW H × List MemPlace} (hB : Rows.uptoBulk x.1 ≤ 1048576) (h : Rd1 enc W fuel 45 [v] x) : ∃ l, PatsAt W v l ∧ (∀ z ∈ l, ∀ y ∈ z, Small y) := by
  obtain ⟨l, hl, -⟩ := sl_open (α := List (List Pt)) Tryd.underlying45 cells_rows.2.2.2.2.1 (by decide) (fun a cs => (∃ u, cs = [u] ∧ WsAt W u a) ∧ ∀ y ∈ a, Small y) h fun n cs y hy hr => by
    have hc : ∃ u, cs = [u] := by
      rcases open_slice Tryd.underlying44 hr with ⟨hcs, -⟩ | ⟨a, len, cap, m, n, D, Pl, hcs, -⟩
      · exact ⟨_, hcs⟩
      · exact ⟨_, hcs⟩
    obtain ⟨u, rfl⟩ := hc
    obtain ⟨l, h1, h2, -⟩ := ws_read (by omega) hr
    exact ⟨l, ⟨u, rfl, h1⟩, h2⟩
  exact ⟨l, hl.turn fun x cs h => h.1, fun z hz => (hl.all z hz).elim fun cs h => h.2⟩
theorem as_read {t e : TypeId} (ht : Tryd.prog.underlying t = some (.slice e)) (hc : Tryd.prog.cellsOf e = 2) (hs : ∃ f0 f1 : Field, Tryd.prog.underlying e = some (.struct #[f0, f1]) ∧ (f0.type = 9 ∧ f0.offset = 0) ∧ (f1.type = 33 ∧ f1.offset = 1))
    {fuel : Nat} {v : Value} {x : DataW H × List MemPlace} (hB : Rows.uptoBulk x.1 ≤ 1048576) (h : Rd1 enc W fuel t [v] x) : ∃ l, AsAt W v l ∧ (∀ y ∈ l, Small y.2) ∧ (∀ y ∈ l, y.1.length ≤ 1048576) ∧ l.length ≤ 1048576 := by
  obtain ⟨l, hl, hb⟩ := sl_open (α := List UInt8 × List Pt) ht hc (by decide) (fun a cs => (∃ u, cs = [txt a.1, u] ∧ PsAt W u a.2) ∧ Small a.2 ∧ a.1.length ≤ 1048576) h fun n cs y hy hr => by
    obtain ⟨f0, f1, hu, ⟨t0, o0⟩, ⟨t1, o1⟩⟩ := hs
    obtain ⟨y0, y1, m, hx, hlen, h0, h1⟩ := trod_struct2 hu hr
    have hx1 : y.1 = .agg [y0.1, y1.1] := by rw [hx]
    rw [hc] at hlen
    rw [t0, o0, cells_rows.2.1] at h0
    rw [t1, o1, cells_of.2.1] at h1
    match cs, hlen with
    | [c0, c1], _ =>
      simp only [List.drop_zero, List.drop_succ_cons, List.take_succ_cons, List.take_zero] at h0 h1
      have b0 : Rows.uptoBulk y0.1 < Rows.uptoBulk y.1 := by rw [hx1]; exact bulk_agg (by simp)
      have b1 : Rows.uptoBulk y1.1 < Rows.uptoBulk y.1 := by rw [hx1]; exact bulk_agg (by simp)
      obtain ⟨tx, rfl, htx⟩ := text_read h0
      obtain ⟨ps, u, h2, h3, h4⟩ := word_read (by omega) h1
      obtain rfl : c1 = u := by simpa using h2
      exact ⟨(tx, ps), ⟨c1, rfl, h3⟩, h4, by show tx.length ≤ _; omega⟩
  exact ⟨l, hl.turn fun x cs h => h.1, fun y hy => (hl.all y hy).elim fun cs h => h.2.1, fun y hy => (hl.all y hy).elim fun cs h => h.2.2, by omega⟩
theorem kids_read {fuel : Nat} {v : Value} {x : DataW H × List MemPlace} (hB : Rows.uptoBulk x.1 ≤ 1048576) (h : Rd1 enc W fuel 43 [v] x) : ∃ l, KidsAt W v l ∧ l.length ≤ 1048576 := by
  obtain ⟨l, hl, hb⟩ := sl_open (α := Int) Tryd.underlying43 cells_rows.1 (by decide) (fun a cs => cs = [.int .i64 a]) h fun n cs y hy hr => by
    obtain ⟨z, hz, -, -⟩ := DataW.trod_int Tryd.underlying3 hr
    exact ⟨z, hz⟩
  exact ⟨l, hl, by omega⟩
theorem node_read {fuel : Nat} {cs : List Value} {x : DataW H × List MemPlace} (hB : Rows.uptoBulk x.1 ≤ 1048576) (h : Rd1 enc W fuel 49 cs x) : ∃ n, NdAt W n cs ∧ NFew n := by
  obtain ⟨f0, f1, f2, f3, f4, f5, f6, hu, ⟨t0, o0⟩, ⟨t1, o1⟩, ⟨t2, o2⟩, ⟨t3, o3⟩, ⟨t4, o4⟩, ⟨t5, o5⟩, ⟨t6, o6⟩⟩ := node_struct
  obtain ⟨y0, y1, y2, y3, y4, y5, y6, m, hx, hlen, h0, h1, h2, h3, h4, h5, h6⟩ := trod_struct7 hu h
  rw [cells_of.2.2.2.2.1] at hlen
  rw [t0, o0, cells_rows.2.1] at h0
  rw [t1, o1, cells_rows.2.1] at h1
  rw [t2, o2, cells_rows.2.2.2.2.2.2.2.2.2] at h2
  rw [t3, o3, cells_rows.2.2.2.2.1] at h3
  rw [t4, o4, cells_rows.2.2.2.2.2.1] at h4
  rw [t5, o5, cells_rows.2.2.2.2.2.2.1] at h5
  rw [t6, o6, cells_rows.2.2.2.2.2.2.2.1] at h6
  match cs, hlen with
  | [c0, c1, c2, c3, c4, c5, c6], _ =>
    simp only [List.drop_zero, List.drop_succ_cons, List.take_succ_cons, List.take_zero] at h0 h1 h2 h3 h4 h5 h6
    have b1 : Rows.uptoBulk y1.1 < Rows.uptoBulk x.1 := by rw [hx]; exact bulk_agg (by simp)
    have b2 : Rows.uptoBulk y2.1 < Rows.uptoBulk x.1 := by rw [hx]; exact bulk_agg (by simp)
    have b3 : Rows.uptoBulk y3.1 < Rows.uptoBulk x.1 := by rw [hx]; exact bulk_agg (by simp)
    have b4 : Rows.uptoBulk y4.1 < Rows.uptoBulk x.1 := by rw [hx]; exact bulk_agg (by simp)
    have b5 : Rows.uptoBulk y5.1 < Rows.uptoBulk x.1 := by rw [hx]; exact bulk_agg (by simp)
    have b6 : Rows.uptoBulk y6.1 < Rows.uptoBulk x.1 := by rw [hx]; exact bulk_agg (by simp)
    obtain ⟨op, rfl, -⟩ := text_read h0
    obtain ⟨nm, rfl, hnm⟩ := text_read h1
    obtain ⟨kids, k1, k2⟩ := kids_read (by omega) h2
    obtain ⟨words, w1, w2, w3⟩ := ws_read (by omega) h3
    obtain ⟨pats, p1, p2⟩ := pats_read (by omega) h4
    obtain ⟨assigns, a1, a2, a3, a4⟩ := as_read Tryd.underlying46 cells_of.2.2.1 assign_struct (by omega) h5
    obtain ⟨redirs, r1, r2, r3, r4⟩ := as_read Tryd.underlying47 cells_of.2.2.2.1 redir_struct (by omega) h6
    exact ⟨⟨op, nm, kids, words, pats, assigns, redirs⟩, ⟨c2, c3, c4, c5, c6, rfl, k1, w1, p1, a1, r1⟩, { small := { words := w2, pats := p2, assigns := a2, redirs := r2, name := by show nm.length ≤ _; omega, names := a3 }, kids := k2, words := w3, assigns := a4, redirs := r4 }⟩
theorem ns_read {fuel : Nat} {v : Value} {x : DataW H × List MemPlace} (hB : Rows.uptoBulk x.1 ≤ 1048576) (h : Rd1 enc W fuel 22 [v] x) : ∃ ns, NsAt W v ns ∧ ∀ n ∈ ns, NFew n := by
  obtain ⟨l, hl, -⟩ := sl_open (α := Nd) Tryd.underlying22 cells_of.2.2.2.2.1 (by decide) (fun a cs => NdAt W a cs ∧ NFew a) h fun n cs y hy hr => node_read (by omega) hr
  exact ⟨l, hl.turn fun x cs h => h.1, fun y hy => (hl.all y hy).elim fun cs h => h.2⟩
set_option maxRecDepth 100000 in
/-- An argument that is a script. -/
theorem prog_open {base : Nat} {v : Value} {d : DataW H} {ps : List MemPlace} (hv : Value.okWide Tryd.prog W .any base 24 v) (h : DataW.Trod enc Tryd.prog W 0 (fun _ => true) true 24 v d ps) (hB : Rows.uptoBulk d ≤ 1048576) :
    ∃ (ns : List Nd) (root : Int) (np : Option Addr) (nc : Nat), v = .agg #[.slice np ns.length nc, .int .i64 root] ∧ NsAt W (.slice np ns.length nc) ns ∧ ∀ n ∈ ns, NFew n := by
  obtain ⟨f0, f1, hu, ⟨t0, o0⟩, ⟨t1, o1⟩⟩ := prog_struct
  obtain ⟨cs, rfl, hsz⟩ := okWide_struct hu hv
  obtain ⟨fuel, hf⟩ := h
  obtain ⟨y0, y1, n, hx, hl, h0, h1⟩ := trod_struct2 hu hf
  have hx1 : d = .agg [y0.1, y1.1] := congrArg Prod.fst hx
  rw [cells_of.2.2.2.2.2] at hl hsz
  rw [t0, o0, cells_rows.2.2.2.2.2.2.2.2.1] at h0
  rw [t1, o1, cells_rows.1] at h1
  obtain ⟨c0, c1, rfl⟩ := Joins.array2 hsz
  simp only [Value.cells, List.drop_zero, List.drop_succ_cons, List.take_succ_cons, List.take_zero] at h0 h1
  have b0 : Rows.uptoBulk y0.1 < Rows.uptoBulk d := by rw [hx1]; exact bulk_agg (by simp)
  obtain ⟨z, hz, -, -⟩ := DataW.trod_int Tryd.underlying3 h1
  obtain rfl : c1 = .int .i64 z := by simpa using hz
  obtain ⟨ns, hn, hs⟩ := ns_read (by omega) h0
  obtain ⟨p, c, rfl⟩ := NsAt.is hn
  exact ⟨ns, z, p, c, rfl, hn, hs⟩
end
end Go.Proofs.YtloaalapkmbgeaaDoor

namespace Go.Proofs.YtloaalapkmbgeaaDoor
open Go Go.ChangeShapes Go.WideShapes Go.ChangeAt Go.WideMaps Go.WideElems Go.RowKit GlyphMath LexMath TreeMath

def bothL : List (String × DataW Unit) := [("unicode/utf8.acceptRanges", Rows.laid_unicode_utf8_acceptRanges), ("lazarus/tree.shapes", Rows.laid_lazarus_tree_shapes), ("unicode/utf8.first", Rows.laid_unicode_utf8_first)]
theorem both_of_laidH {W : World} (h : laidMetH Tryd.prog bothL W) : Shapes W ∧ Tabs W := by
  rw [MakeChecks.laidMetH_plain _ _ _ (by kernel_rfl)] at h
  refine ⟨shapes_of_reads (Lib.laidMet.reads h (by simp [bothL])), ?_⟩
  have h3 := Lib.laidMet.reads h (n := "unicode/utf8.first") (d := Rows.laid_unicode_utf8_first) (by simp [bothL])
  have h4 := Lib.laidMet.reads h (n := "unicode/utf8.acceptRanges") (d := Rows.laid_unicode_utf8_acceptRanges) (by simp [bothL])
  rw [first_is] at h3
  rw [accept_is] at h4
  exact utf8Tabs_of_reads lays260 extra h3 h4
end Go.Proofs.YtloaalapkmbgeaaDoor

namespace Go.Proofs.YtloaalapkmbgeaaDoor
open Go Go.ChangeShapes Go.WideShapes Go.ChangeAt Go.WideMaps Go.WideElems Go.RowKit GlyphMath LexMath TreeMath

set_option maxRecDepth 100000 in
/-- What the walk gives, for every argument that is short and every world that holds the tables. -/
theorem treeIs_contract (H : Type) (enc : TypeId × Value → H) (W : World) (base : Nat) (args : Array Value) (ds gs : List (DataW H)) (before : List MemPlace)
    (hval0 : ∀ (j : Nat) t v, Tryd.f3.params[j]? = some t → args[j]? = some v → Value.okWide Tryd.prog W .any base t v)
    (hW : DataW.Whole enc Tryd.prog Tryd.f3.params.toList Rows.treeIsSpec.vars false W args.toList ds gs before) (hk : Rows.uptoSmall H (ds ++ gs) = true) (hL : laidMetH Tryd.prog bothL W) :
    Calls Tryd.prog 3 args W fun e W' => ∃ v, e = .returned v ∧ Rows.treeIsSpec.post enc Tryd.prog Tryd.f3 false true false false W args v W' := by
  have hval : ∀ (j : Nat) t v, Tryd.f3.params[j]? = some t → args[j]? = some v → Value.okWide Tryd.prog W .any base t v := hval0
  have hW' := hW
  obtain ⟨hS, hT⟩ := both_of_laidH hL
  obtain ⟨p, q, hA0, hV, hbe, hfz, hnd⟩ := hW
  have hA : DataW.TrodAll enc Tryd.prog W 0 (fun _ => true) true Tryd.f3.params.toList args.toList ds p := hA0
  rw [Tryd.params3] at hA hval
  obtain ⟨v0, d0, rfl, rfl, h0⟩ := trodAll_one hA
  obtain ⟨rfl, rfl⟩ := trodVars_none hV
  have fin : ∀ W' : World, Below W.heap.size W W' → Rows.treeIsSpec.post enc Tryd.prog Tryd.f3 false true false false W #[v0] (.bool true) W' := fun W' hb =>
    law_post laidOut (by decide +kernel) (by kernel_rfl) Tryd.underlying4 rfl hW' rfl hb
  have hB : Rows.uptoBulk d0 ≤ 1048576 := by
    have h := of_decide_eq_true hk
    simp only [List.append_nil, Rows.uptoBulkAll] at h
    omega
  obtain ⟨ns, root, np, nc, rfl, hN, hs⟩ := prog_open (hval 0 24 v0 rfl rfl) h0 hB
  exact (is_law ns root np nc W hN hs hS hT).mono fun e W' ⟨he, hb⟩ => ⟨_, he, fin W' hb⟩

set_option maxRecDepth 100000 in
theorem treeIs_reads (os : Os) {H : Type} (enc : TypeId × Value → H) : ∃ places, DataW.whole enc Tryd.prog ((World.laidAll Tryd.prog os bothL).forCall (fun _ _ => 0) ⟨#[], #[.agg #[.slice none 0 0, .int .i64 0]], []⟩).memory Tryd.f3.params.toList Rows.treeIsSpec.vars false #[Value.agg #[.slice none 0 0, .int .i64 0]].toList 8 = some ([.agg [.nil, .lit (.int .i64 0)]], [], places) :=
  ⟨[], by kernel_rfl⟩

set_option maxRecDepth 100000 in
theorem treeIs_lifted (os : Os) (started : os.Started) (H : Type) (enc : TypeId × Value → H) (F : Stop.Interp) :
    ReturnsInHanded {} Tryd.checked os 3 .any ((Rows.OpenSpec.upto Rows.treeIsSpec).preRow enc Tryd.prog Tryd.f3 Rows.treeIsUptoRow.domain false Rows.treeIsUptoRow.laid) (((Rows.OpenSpec.upto Rows.treeIsSpec).at F).post enc Tryd.prog Tryd.f3 false true false false) := by
  obtain ⟨places, hx⟩ := treeIs_reads os enc
  have hok : Input.okWideB Tryd.prog ((World.laidAll Tryd.prog os bothL).forCall (fun _ _ => 0) ⟨#[], #[.agg #[.slice none 0 0, .int .i64 0]], []⟩) 3 ⟨#[], #[.agg #[.slice none 0 0, .int .i64 0]], []⟩ = true := by kernel_rfl
  refine returnsInHanded_of_row (C := Tryd.checked) (s := Rows.OpenSpec.upto Rows.treeIsSpec) own started (by kernel_rfl) Tryd.func3
    ⟨World.laidAll Tryd.prog os bothL, fun _ _ => 0, ⟨#[], #[.agg #[.slice none 0 0, .int .i64 0]], []⟩, World.laidAll_os _ _ _, World.shaped_of_ZipB (by kernel_rfl) (by kernel_rfl), (Input.okWide_of_okWideB (base := 0) hok).1, (Input.okWide_of_okWideB hok).2,
      OpenSpec.preRow_of_cond 8 hx (by kernel_rfl) (fun k hk => by cases hk; kernel_rfl) (by kernel_rfl) (by
        show laidMetH Tryd.prog bothL _
        rw [MakeChecks.laidMetH_plain _ _ _ (by kernel_rfl)]; exact laidMet_laidAll _ (by kernel_rfl) (by kernel_rfl)), by
      simp only [Assume.holds]
      exact ⟨by simp, by simp, fun _ => Modest.zero, by simp, by simp⟩⟩ ?_
  intro W base args ds gs before hval hW _ hcond _ hL _ _
  exact treeIs_contract H enc W base args ds gs before hval hW (hcond _ rfl) hL

theorem treeIs_said : Rows.TreeIsUptoSaid :=
  OpenClaim.holds_of_cond 3 Tryd.f3 rfl rfl rfl rfl rfl rfl rfl ⟨rfl, rfl, rfl, rfl, rfl⟩ rfl rfl rfl rfl rfl (by kernel_rfl) Tryd.func3 (by kernel_rfl)
    (of_decide_eq_true (by kernel_rfl)) (by unfold Func.isWrapper; first | (rw [if_pos (by decide +kernel)]; kernel_rfl) | (rw [if_neg (by decide +kernel)]; exact ⟨rfl, rfl⟩))
    (fun os started H enc _ F => by rw [OpenClaim.pre_eq_preRow]; exact treeIs_lifted os started H enc F)

theorem treeIs_plain (f : FuncId) (fn : Func) (hf : Tryd.pinned.checked.prog.funcNamed "lazarus/lazaruslaw9.TreeIs" = some f) (hfn : Tryd.pinned.checked.prog.funcs[f]? = some fn) :
    false = Tryd.pinned.checked.prog.looks [] ∧ ∀ (j : Nat) t, fn.params[j]? = some t → Tryd.pinned.checked.prog.wantsStandIn t = false := by
  obtain rfl : f = 3 := Option.some.inj ((show Tryd.prog.funcNamed "lazarus/lazaruslaw9.TreeIs" = some 3 by kernel_rfl).symm.trans hf) |>.symm
  obtain rfl : fn = Tryd.f3 := (Option.some.inj (Tryd.func3.symm.trans hfn)).symm
  refine ⟨by kernel_rfl, fun j t ht => ?_⟩
  rw [Tryd.params3] at ht
  obtain rfl : t = 24 := by simpa using Array.mem_of_getElem? ht
  exact (show Tryd.prog.wantsStandIn 24 = false by kernel_rfl)

/-- THE CARD. -/
theorem treeIs_card : Rows.TreeIsUptoCardSaid :=
  Claim7.holds_tied_plain_at .later [] _ _ _ _ treeIs_said (fun _ h => by cases h) (by kernel_rfl) (fun _ h => by cases h) treeIsUpto_row_tie rfl ⟨rfl, rfl⟩ (by kernel_rfl) rfl treeIs_plain (by kernel_rfl)
end Go.Proofs.YtloaalapkmbgeaaDoor
