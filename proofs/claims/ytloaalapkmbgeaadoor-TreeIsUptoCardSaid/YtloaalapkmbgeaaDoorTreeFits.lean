/-
  Proved: a contract of tree's fits. Conditions: the program's shapes lie as they should.
-/
import Derived.Test.YtloaalapkmbgeaaDoorTreeShape
import Derived.Test.YtloaalapkmbgeaaDoorTreeFits0
namespace Go.Proofs.YtloaalapkmbgeaaDoor
open Go Go.RowKit GlyphMath LexMath TreeMath

/-- An index, by what it is known to give. -/
theorem wpList_index {P : Program} {ops : Array Oper} {rest : List Oper} {op : Oper} {a : Act} {w : World} {Q : Exit → Act → World → Prop} (hgd : op.guard = none) (ty : TypeId) (x i : Operand) (ho : op.op = .index ty x i)
    (X I v : Value) (hx : a.eval x = X) (hi : a.eval i = I) (hr : (Instr.index ty X I).run P w = .ok v w) (h : wpList P ops Q rest (a.put op.dst v) w) : wpList P ops Q (op :: rest) a w :=
  wpList_plain hgd fun _ hK => by
    unfold Oper.wp execOp
    simp only [ho, hx, hi, Sem.run_bind, Sem.run_pure, Result.andThen_ok, hr]
    exact hK _ _ h

set_option maxHeartbeats 2000000 in
set_option maxRecDepth 100000 in
theorem fits_any (n : Nd) (kp wp pp ap rp : Option Addr) (kc wc pc ac rc : Nat) (w : World) (hS : Shapes w) :
    Calls Tryd.prog 24 #[NV n kp wp pp ap rp kc wc pc ac rc] w fun e w' => e = .returned (.bool (fitsT n)) ∧ Below w.heap.size w w' := by
  have HB := Lib.hid (fun o => below_one w o)
  have HS := Lib.hid (fun o => Shapes.below hS (below_one w o))
  obtain ⟨R, hR⟩ : ∃ R, fitsT n = R := ⟨_, rfl⟩
  have HR := Lib.hid (show (match shapesL.find? (fun s => s.op == n.op) with | some s => shapeT s n | none => false) = R from hR)
  rw [hR]
  have HF := Lib.hid (fun s W => shape_any s n kp wp pp ap rp kc wc pc ac rc W)
  obtain ⟨V, hV⟩ : ∃ V, Value.agg shapeCells.toArray = V := ⟨_, rfl⟩
  have HIX := Lib.hid (show ∀ (k : Nat) (s : Sh), shapesL[k]? = some s → ∀ W, (Instr.index 81 V (.int .i64 (k : Int))).run Tryd.prog W = .ok (shapeV s) W from fun k s h W => by rw [← hV]; exact shape_at W k s h)
  have HV := Lib.hid hV
  obtain ⟨o, ho⟩ : ∃ o, T n.op = o := ⟨_, rfl⟩
  have HL := Lib.hid (show o.toList = n.op by rw [← ho, Lib.toList_data])
  obtain ⟨x, hx⟩ : ∃ o, T n.name = o := ⟨_, rfl⟩
  have HF := Lib.hid (show ∀ s W, Calls Tryd.prog 45 #[shapeV s, .agg #[.string o, .string x, .slice kp n.kids.length kc, .slice wp n.words.length wc, .slice pp n.pats.length pc, .slice ap n.assigns.length ac, .slice rp n.redirs.length rc]] W fun e w' => e = .returned (.bool (shapeT s n)) ∧ Below W.heap.size W w' from fun s W => by rw [← ho, ← hx]; exact HF.out s W)
  show Calls _ _ #[.agg #[.string (T n.op), .string (T n.name), .slice kp n.kids.length kc, .slice wp n.words.length wc, .slice pp n.pats.length pc, .slice ap n.assigns.length ac, .slice rp n.redirs.length rc]] _ _
  rw [ho, hx]
  generalize n.pats.length = PL at HF ⊢
  generalize n.words.length = WL at HF ⊢
  generalize n.assigns.length = AL at HF ⊢
  generalize n.redirs.length = RL at HF ⊢
  generalize n.kids.length = KL at HF ⊢
  have HN := Lib.hid (heap_alloc_new w (.cells #[.string o, .string x, .slice kp KL kc, .slice wp WL wc, .slice pp PL pc, .slice ap AL ac, .slice rp RL rc] 49))
  clear hS hR hV ho hx
  go_enter Tryd.func24, Tryd.ntmps24
  go_wp2_with (refine wpList_load_mid (by rfl) 81 (.global 0) (by rfl) 0 0 (by rfl) shapeCells _ (HS.out _) Tryd.underlying81 (by rfl) info_shapes ?_; rw [HV.out])
  go_loopw [6] (fun i wr => ∃ k : Nat, i = .int .i64 (k : Int) ∧ k ≤ 14 ∧ Below w.heap.size w wr ∧ wr.heap[w.heap.size]? = some (.cells #[.string o, .string x, .slice kp KL kc, .slice wp WL wc, .slice pp PL pc, .slice ap AL ac, .slice rp RL rc] 49) ∧ (match (shapesL.drop k).find? (fun s => s.op == n.op) with | some s => shapeT s n | none => false) = R) (fun i _ => 14 - (intOf i).toNat)
  case atStart => exact ⟨0, rfl, by omega, HB.out _, HN.out, HR.out⟩
  case round =>
    obtain ⟨k, rfl, hk, hb, hn, hsd⟩ := hrel
    by_cases hlt : k < 14
    · obtain ⟨s, hs⟩ : ∃ s, shapesL[k]? = some s := ⟨_, List.getElem?_eq_getElem hlt⟩
      have ix := HIX.out k s hs
      rw [drop_get hs, List.find?_cons] at hsd
      have c0 := fun y => cell_below (cell_plain hn 0) (below_one wr y)
      have c1 := fun y => cell_below (cell_plain hn 1) (below_one wr y)
      have c2 := fun y => cell_below (cell_plain hn 2) (below_one wr y)
      have c3 := fun y => cell_below (cell_plain hn 3) (below_one wr y)
      have c4 := fun y => cell_below (cell_plain hn 4) (below_one wr y)
      have c5 := fun y => cell_below (cell_plain hn 5) (below_one wr y)
      have c6 := fun y => cell_below (cell_plain hn 6) (below_one wr y)
      have HK := Lib.hid (And.intro hlt (And.intro hb hn))
      have hk0 : (k : Int) < 14 := by omega
      have HSF := Lib.hid (HF.out s)
      have HST := Lib.hid (show shapeT s n = shapeT s n from rfl)
      obtain ⟨sop, k0, k1, w0, w1, sn, sp, sa, sr⟩ := s
      obtain ⟨z, hz⟩ : ∃ z, T sop = z := ⟨_, rfl⟩
      have hze : (z.toList == o.toList) = (sop == n.op) := by rw [HL.out, ← hz, Lib.toList_data]
      replace ix : ∀ W, (Instr.index 81 V (.int .i64 (k : Int))).run Tryd.prog W = .ok (.agg #[.string z, .int .i64 k0, .int .i64 k1, .int .i64 w0, .int .i64 w1, .bool sn, .bool sp, .bool sa, .bool sr]) W := by rw [← hz]; exact ix
      have HSF := Lib.hid (show ∀ W, Calls Tryd.prog 45 #[.agg #[.string z, .int .i64 k0, .int .i64 k1, .int .i64 w0, .int .i64 w1, .bool sn, .bool sp, .bool sa, .bool sr], .agg #[.string o, .string x, .slice kp KL kc, .slice wp WL wc, .slice pp PL pc, .slice ap AL ac, .slice rp RL rc]] W fun e w' => e = .returned (.bool (shapeT ⟨sop, k0, k1, w0, w1, sn, sp, sa, sr⟩ n)) ∧ Below W.heap.size W w' from by rw [← hz]; exact HSF.out)
      have HIK := Lib.hid ix
      clear ix
      obtain ⟨Q, hQ⟩ : ∃ Q, (sop == n.op) = Q := ⟨_, rfl⟩
      rw [hQ] at hze
      cases Q with
      | true =>
        have HSD := Lib.hid (show shapeT ⟨sop, k0, k1, w0, w1, sn, sp, sa, sr⟩ n = R from by
          simp only [hQ] at hsd
          exact hsd)
        clear hsd hb hn hlt hk hs hz hQ HST
        rw [HSD.out] at HSF
        go_wp2_with (first | (refine wpList_index (by rfl) 81 (.tmp 5) (.tmp 6) (by rfl) V (.int .i64 (k : Int)) _ (by rfl) (by rfl) (HIK.out _) ?_) | (go_at_call 45; refine (HSF.out _).mono ?_; rintro e w2 ⟨rfl, hb2⟩; have HB2 := Lib.hid hb2; clear hb2))
        go_ret
        exact ⟨rfl, HK.out.2.1.trans (((below_one _ _).trans (HB2.out.mono (below_one _ _).size)).mono HK.out.2.1.size)⟩
      | false =>
        have HSD := Lib.hid (show (match (shapesL.drop (k + 1)).find? (fun s => s.op == n.op) with | some s => shapeT s n | none => false) = R from by
          simp only [hQ] at hsd
          exact hsd)
        clear hsd hb hn hlt hk hs hz hQ HST HSF
        go_wp2_with (refine wpList_index (by rfl) 81 (.tmp 5) (.tmp 6) (by rfl) V (.int .i64 (k : Int)) _ (by rfl) (by rfl) (HIK.out _) ?_)
        exact ⟨⟨k + 1, by go_num, by have := HK.out.1; omega, HK.out.2.1.trans ((below_one _ _).mono HK.out.2.1.size), ((below_one _ _).block _ (Array.getElem?_eq_some_iff.1 HK.out.2.2).1).trans HK.out.2.2, HSD.out⟩, by have := HK.out.1; simp [intOf]; omega⟩
    · obtain rfl : k = 14 := by omega
      have HE := Lib.hid (show false = R from hsd)
      have HBB := Lib.hid hb
      clear hsd hb hn hlt hk
      go_wp2_with fail
      go_ret
      exact ⟨ret_bool HE.out, HBB.out⟩
end Go.Proofs.YtloaalapkmbgeaaDoor
