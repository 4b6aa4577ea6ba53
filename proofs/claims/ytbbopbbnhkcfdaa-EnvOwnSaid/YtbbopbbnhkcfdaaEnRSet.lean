/-
  Proved: contract of the statements' own Set. Conditions: at most 1000 variables.
-/
import Derived.Test.YtbbopbbnhkcfdaaEnRUnset
import Derived.Test.YtbbopbbnhkcfdaaEnWithV
import Derived.Test.YtbbopbbnhkcfdaaParseOrd
namespace Go.Proofs.Ytbbopbbnhkcfdaa
open Go Go.RowKit EnMath

section
variable {P : Program} {ops : Array Oper} {Q : Exit → Act → World → Prop} {md : Region.Mode} {S : World → Prop} {L : Nat}
/-- Two operations that may come up. -/
theorem twoL {i j : Nat} {o1 o2 : Oper} {fuel : Nat} {listed : Array Bool} {a : Act} {w : World} (hr : Region.ready md ops listed = [i, j]) (h1 : ops[i]? = some o1) (h2 : ops[j]? = some o2) (hw1 : Region.wanted o1 (yielded ops a.tmps) = true) (hw2 : Region.wanted o2 (yielded ops a.tmps) = true)
    (g1 : ∀ K : Act → World → Prop, Shut (∀ a w, ((listed.setIfInBounds i true).getD L true = true ∨ S w) → wpAnyL P md ops Q S L fuel (listed.setIfInBounds i true) a w → K a w) → Oper.wp P o1 a w K Q)
    (g2 : ∀ K : Act → World → Prop, Shut (∀ a w, ((listed.setIfInBounds j true).getD L true = true ∨ S w) → wpAnyL P md ops Q S L fuel (listed.setIfInBounds j true) a w → K a w) → Oper.wp P o2 a w K Q) : wpAnyL P md ops Q S L (fuel + 1) listed a w := by
  refine ⟨fun h0 => (by rw [hr] at h0; cases h0), fun k hk => ?_⟩
  rw [hr] at hk
  simp only [List.mem_cons, List.not_mem_nil, or_false] at hk
  rcases hk with rfl | rfl
  · exact wpOp_step h1 fun K' hK => by
      rw [if_pos hw1]
      exact g1 K' fun a w h1 h2 => hK a w ⟨h1, h2⟩
  · exact wpOp_step h2 fun K' hK => by
      rw [if_pos hw2]
      exact g2 K' fun a w h1 h2 => hK a w ⟨h1, h2⟩
end
theorem wp_append_rd {α : Type} {sz : Nat} {enc : α → List Value} {P : Program} (w : World) {o : Oper} {a : Act} {K : Act → World → Prop} {Q : Exit → Act → World → Prop} (s x : Operand) (t : TypeId)
    (ho : o.op = .call { callee := .builtin .append, args := #[s, x], argTypes := #[t, t] })
    (e : TypeId) (i : TypeInfo) (z : Value) (bytes : Nat) (ht : P.underlying t = some (.slice e)) (hi : P.info? e = some i) (hz : i.zero = some z) (hs : i.size = sz) (hb : i.bytes = bytes) (hzs : z.cells.size = sz) (E : Enc sz enc)
    (B : Nat) (v : Value) (l m : List α) (hsv : a.eval s = v) (hown : w.ownsRow B e sz v l.length (l.flatMap enc)) (xv : Value) (hxv : a.eval x = xv) (hx : Rd sz enc w xv m) (hlim : (l.length + m.length) * bytes ≤ 140737488355328) (hlen : l.length + m.length ≤ maxLen) (hB : B ≤ w.heap.size) (J : List α) (hJ : l ++ m = J)
    (h : ∀ q d w', w'.ownsRow B e sz (.slice q J.length d) J.length (J.flatMap enc) → w.grownBy w' v.ownBlock → K (a.put o.dst (.slice q J.length d)) w') : o.wp P a w K Q := by
  subst hJ
  obtain ⟨v', w', hr, h2, h3⟩ := run_append_src (P := P) w t t o.type e i z bytes ht hi hz hs hb hzs E B v l m hown xv hx rfl hlim hlen hB
  obtain ⟨q, d, rfl⟩ := (Rd.of_own E h2).shape
  unfold Oper.wp execOp
  simp only [ho, resolve, invoke, builtin, Sem.run_bind, Sem.run_pure, Result.andThen_ok, List.map_toArray, List.map_cons, List.map_nil, hsv, hxv, hr]
  exact h q d w' h2 h3
/-- A block by what lies in it. -/
def Blk (w : World) (g : Nat) (o : Obj) : Prop := w.heap[g]? = some o
theorem Blk.new {w : World} {o : Obj} {g : Nat} (h : g = w.heap.size) : Blk (w.alloc o) g o := by subst h; exact heap_alloc_new w o
theorem Blk.lt {w : World} {o : Obj} {g : Nat} (h : Blk w g o) : g < w.heap.size := (Array.getElem?_eq_some_iff.1 h).1
theorem Blk.below {w w' : World} {o : Obj} {g : Nat} (h : Blk w g o) (hb : Below w.heap.size w w') : Blk w' g o := (hb.block g h.lt).trans h
theorem Blk.alloc {w : World} {o : Obj} {g : Nat} (h : Blk w g o) (o' : Obj) : Blk (w.alloc o') g o := h.below ((Below.refl _ w).alloc (Nat.le_refl _) o')
theorem Blk.grown {w w' : World} {o : Obj} {g : Nat} {row : Option Nat} (h : Blk w g o) (hg : w.grownBy w' row) (hne : some g ≠ row) : Blk w' g o := (hg.block g h.lt hne).trans h
theorem Blk.own0 {w : World} {g B e : Nat} {sz : Nat} (h : Blk w g (.cells #[] e)) (hB : B ≤ g) : w.ownsRow B e sz (.slice (some ⟨g, 0, none⟩) 0 0) 0 [] :=
  ⟨by simp, .inr ⟨g, 0, #[], rfl, hB, h, Nat.le_refl _, by decide, by simp, by simp⟩⟩
theorem Blk.one {α : Type} {sz : Nat} {enc : α → List Value} {w : World} {g e : Nat} {x : α} (h : Blk w g (.cells (enc x).toArray e)) : Rd sz enc w (.slice (some ⟨g, 0, none⟩) 1 1) [x] := by
  refine ⟨_, 1, rfl, Nat.le_refl _, by decide, .inr ⟨_, 0, rfl, fun k y hk i u hu => ?_⟩⟩
  obtain rfl : k = 0 := by have := (List.getElem?_eq_some_iff.1 hk).1; simp at this; exact this
  simp only [List.getElem?_cons_zero, Option.some.injEq] at hk
  subst hk
  rw [Nat.zero_mul, Nat.zero_add, cell_of_row _ _ i _ _ _ h]
  simpa using hu
theorem tw_at {l : List (ByteArray × ByteArray)} {p : ByteArray × ByteArray → Bool} {k : Nat} {x : ByteArray × ByteArray} (h : l[k]? = some x) (hk : k ≤ (l.takeWhile p).length) : p x = decide (k < (l.takeWhile p).length) := by
  induction l generalizing k with
  | nil => simp at h
  | cons y l ih =>
    cases hp : p y with
    | false =>
      rw [List.takeWhile_cons, hp] at hk
      simp at hk
      subst hk
      simp only [List.getElem?_cons_zero, Option.some.injEq] at h
      subst h
      rw [List.takeWhile_cons, hp]
      simp
    | true =>
      rw [List.takeWhile_cons, hp] at hk ⊢
      cases k with
      | zero =>
        simp only [List.getElem?_cons_zero, Option.some.injEq] at h
        subst h
        simp [hp]
      | succ k =>
        simp only [List.getElem?_cons_succ] at h
        simp only [if_true, List.length_cons] at hk ⊢
        rw [ih h (by omega)]
        simp

set_option maxHeartbeats 8000000 in
theorem rset_any {E : Ev} (n x : ByteArray) (v : Value) (w : World) (h : EnvAt w v E) (hl : E.vars.length ≤ 1000) :
    Calls Try.prog 10 #[v, .string n, .string x] w fun e w' => ∃ v', e = .returned v' ∧ EnvAt w' v' { E with vars := setM E.vars n x } ∧ Below w.heap.size w w' := by
  obtain ⟨p1, c1, p2, c2, p3, c3, rfl, r1, r2, r3⟩ := h.shape
  obtain ⟨W2, hW2⟩ : ∃ W, (w.alloc (.cells #[.slice p1 E.vars.length c1, .slice p2 E.args.length c2, .slice p3 E.funs.length c3] 26)).alloc (.cells #[.slice none 0 0, .slice none 0 0, .slice none 0 0] 26) = W := ⟨_, rfl⟩
  have hb : Below w.heap.size w W2 := by rw [← hW2]; exact en_alloc (en_alloc (Below.refl _ w) _) _
  have hX : W2.heap[w.heap.size]? = some (.cells #[.slice p1 E.vars.length c1, .slice p2 E.args.length c2, .slice p3 E.funs.length c3] 26 (0, 0)) := by rw [← hW2, Below.heap_alloc _ _ _ (by simp)]; exact heap_alloc_new w _
  have hY : W2.heap[w.heap.size + 1]? = some (.cells #[.slice none 0 0, .slice none 0 0, .slice none 0 0] 26 (0, 0)) := by
    have := heap_alloc_new (w.alloc (.cells #[.slice p1 E.vars.length c1, .slice p2 E.args.length c2, .slice p3 E.funs.length c3] 26)) (.cells #[.slice none 0 0, .slice none 0 0, .slice none 0 0] 26)
    rw [hW2] at this
    simpa using this
  have hXl : w.heap.size < W2.heap.size := (Array.getElem?_eq_some_iff.1 hX).1
  have hYl : w.heap.size + 1 < W2.heap.size := (Array.getElem?_eq_some_iff.1 hY).1
  have HB := Lib.hid hb
  have HXY := Lib.hid (And.intro hX (And.intro hY (And.intro hXl hYl)))
  have k0 := cell_of_row W2 _ 0 _ _ _ hX
  have k1 := cell_of_row W2 _ 1 _ _ _ hX
  have k2 := cell_of_row W2 _ 2 _ _ _ hX
  have HU := Lib.hid (runset_any n _ W2 (h.below hb (Nat.le_refl _)) hl)
  have hdl := del_len E.vars n
  have hJ : setM E.vars n x = (delM E.vars n).takeWhile (fun x => ltN x.1 n) ++ (n, x) :: (delM E.vars n).dropWhile (fun x => ltN x.1 n) := rfl
  rw [hJ]
  obtain ⟨D, hD⟩ : ∃ D, delM E.vars n = D := ⟨_, rfl⟩
  rw [hD] at HU hdl
  rw [hD]
  obtain ⟨A, hA⟩ : ∃ A, D.takeWhile (fun x => ltN x.1 n) = A := ⟨_, rfl⟩
  obtain ⟨C, hC⟩ : ∃ C, D.dropWhile (fun x => ltN x.1 n) = C := ⟨_, rfl⟩
  have hAC : D = A ++ C := by rw [← hA, ← hC, List.takeWhile_append_dropWhile]
  have htw : ∀ (k : Nat) (y : ByteArray × ByteArray), D[k]? = some y → k ≤ A.length → ltN y.1 n = decide (k < A.length) := fun k y h1 h2 => by rw [← hA] at h2 ⊢; exact tw_at (p := fun x => ltN x.1 n) h1 h2
  rw [hA, hC]
  obtain ⟨N1, hN1⟩ : ∃ N, E.vars.length = N := ⟨_, rfl⟩
  obtain ⟨N2, hN2⟩ : ∃ N, E.args.length = N := ⟨_, rfl⟩
  obtain ⟨N3, hN3⟩ : ∃ N, E.funs.length = N := ⟨_, rfl⟩
  rw [hN1, hN2, hN3] at hW2 HXY HU
  rw [hN1, hN2, hN3]
  rw [hN1] at hl hdl k0
  rw [hN2] at k1
  rw [hN3] at k2
  have hDl : D.length ≤ 1000 := by omega
  obtain ⟨ND, hND⟩ : ∃ N, D.length = N := ⟨_, rfl⟩
  have HND := Lib.hid hND
  obtain ⟨M, hM⟩ : ∃ M, A.length = M := ⟨_, rfl⟩
  rw [hM] at htw
  have hMN : M ≤ ND := by rw [← hM, ← hND, hAC]; simp
  have hMC : M + C.length = ND := by rw [← hM, ← hND, hAC]; simp
  rw [hND] at hDl
  have HTW := Lib.hid (And.intro htw (And.intro hAC (And.intro hM hMC)))
  have f0 := frozen_of_row W2 _ 0 _ _ hX
  have f1 := frozen_of_row W2 _ 1 _ _ hX
  have f2 := frozen_of_row W2 _ 2 _ _ hX
  obtain ⟨i0, hi, hz0, hz1, hz2⟩ := info_parts infoV
  have HI := Lib.hid (And.intro hi (And.intro hz0 (And.intro hz1 hz2)))
  clear h hb hX hY hXl hYl r1 r2 r3 hN1 hN2 hN3 hi hz0 hz1 hz2 hD hA hC hND hM hJ hAC htw hdl hl hMC
  go_enter Try.func10, Try.ntmps10
  go_upto_region 2 with (first
    | (rw [hW2]; clear hW2)
    | (go_at_call 12; (refine HU.out.mono ?_); rintro e w3 ⟨v3, rfl, hE3, hb3⟩; obtain ⟨p4, c4, p5, c5, p6, c6, rfl, r4, r5, r6⟩ := hE3.shape; have HB3 := Lib.hid hb3; have hX3 := (hb3.block _ HXY.out.2.2.1).trans HXY.out.1; have k0 := cell_of_row w3 _ 0 _ _ _ hX3; have k1 := cell_of_row w3 _ 1 _ _ _ hX3; have k2 := cell_of_row w3 _ 2 _ _ _ hX3; have f0 := frozen_of_row w3 _ 0 _ _ hX3; have f1 := frozen_of_row w3 _ 1 _ _ hX3; have f2 := frozen_of_row w3 _ 2 _ _ hX3; have HE3 := Lib.hid hE3; clear hE3 hb3 hX3 r4 r5 r6))
  have HB3' := Lib.hid (HB.out.trans (HB3.out.mono HB.out.size))
  obtain ⟨hX3, hY3⟩ : w3.heap[w.heap.size]? = some (.cells #[.slice p1 N1 c1, .slice p2 N2 c2, .slice p3 N3 c3] 26 (0, 0)) ∧ w3.heap[w.heap.size + 1]? = some (.cells #[.slice none 0 0, .slice none 0 0, .slice none 0 0] 26 (0, 0)) := ⟨(HB3.out.block _ HXY.out.2.2.1).trans HXY.out.1, (HB3.out.block _ HXY.out.2.2.2).trans HXY.out.2.1⟩
  have hE4 := HE3.out.put hX3 (.slice p4 D.length c4) (.slice p5 E.args.length c5) (.slice p6 E.funs.length c6)
  have hX4 := env_put (a := .slice p4 D.length c4) (b := .slice p5 E.args.length c5) (c := .slice p6 E.funs.length c6) hX3
  have hY4 : ((((w3.setCell ⟨w.heap.size, 0, none⟩ (.slice p4 D.length c4)).setCell ⟨w.heap.size, 1, none⟩ (.slice p5 E.args.length c5)).setCell ⟨w.heap.size, 2, none⟩ (.slice p6 E.funs.length c6))).heap[w.heap.size + 1]? = some (.cells #[.slice none 0 0, .slice none 0 0, .slice none 0 0] 26 (0, 0)) := by
    rw [Below.heap_setCell _ _ _ _ (by simp), Below.heap_setCell _ _ _ _ (by simp), Below.heap_setCell _ _ _ _ (by simp)]
    exact hY3
  have hB4 := env_set HB3'.out (Nat.le_refl w.heap.size) (.slice p4 D.length c4) (.slice p5 E.args.length c5) (.slice p6 E.funs.length c6)
  rw [HND.out] at hE4 hX4 hY4 hB4
  rw [HND.out]
  obtain ⟨N5, hN5⟩ : ∃ N, E.args.length = N := ⟨_, rfl⟩
  obtain ⟨N6, hN6⟩ : ∃ N, E.funs.length = N := ⟨_, rfl⟩
  rw [hN5, hN6] at hE4 hX4 hY4 hB4
  rw [hN5, hN6]
  obtain ⟨W4, hW4⟩ : ∃ W, ((w3.setCell ⟨w.heap.size, 0, none⟩ (.slice p4 ND c4)).setCell ⟨w.heap.size, 1, none⟩ (.slice p5 N5 c5)).setCell ⟨w.heap.size, 2, none⟩ (.slice p6 N6 c6) = W := ⟨_, rfl⟩
  rw [hW4] at hE4 hX4 hY4 hB4
  rw [hW4]
  obtain ⟨_, _, _, hag, r4, r5, r6⟩ := hE4
  simp only [Value.agg.injEq, Array.mk.injEq, List.cons.injEq, and_true] at hag
  obtain ⟨rfl, rfl, rfl⟩ := hag
  dsimp only at r4 r5 r6
  have hr4 : Rd 2 bC W4 (.slice p4 D.length c4) D := by rw [HND.out]; exact r4
  obtain ⟨qa, ia, ra⟩ := uptoV_shape hr4 M (by rw [HND.out]; exact hMN)
  obtain ⟨qc, Dc, Ec, -, ic, rc⟩ := fromV_shape hr4 M (by rw [HND.out]; exact hMN)
  rw [show D.take M = A by rw [HTW.out.2.1, ← HTW.out.2.2.1]; exact List.take_left] at ra
  rw [show D.drop M = C by rw [HTW.out.2.1, ← HTW.out.2.2.1]; exact List.drop_left] at rc
  rw [HND.out] at ia ic
  have HIA := Lib.hid ia
  have HIC := Lib.hid ic
  have HR4 := Lib.hid (And.intro ra (And.intro rc (And.intro r5 r6)))
  have HRD := Lib.hid hr4
  have HX4 := Lib.hid (And.intro hX4 (And.intro hY4 hB4))
  have hXl : w.heap.size < W4.heap.size := (Array.getElem?_eq_some_iff.1 hX4).1
  have hYl : w.heap.size + 1 < W4.heap.size := (Array.getElem?_eq_some_iff.1 hY4).1
  have HXL := Lib.hid (And.intro hXl hYl)
  have k0 := cell_of_row W4 _ 0 _ _ _ hX4
  clear HB3' hX3 hY3 hX4 hY4 hB4 hN5 hN6 hW4 r4 r5 r6 hr4 ia ic ra rc hXl hYl k1 k2 f0 f1 f2 HE3 HXY HB3 HU
  go_wp2_with fail
  go_loopw [7] (fun v wr => ∃ i : Nat, v = .int .i64 (i : Int) ∧ i ≤ M ∧ W4 = wr) (fun v _ => M - (intOf v).toNat)
  case atStart => exact ⟨0, rfl, by omega, rfl⟩
  case round =>
    obtain ⟨i, rfl, hi, rfl⟩ := hrel
    have hi0 : (0 : Int) ≤ (i : Int) := by omega
    have hi9 : (i : Int) ≤ 1000 := by omega
    by_cases hiM : i < M
    · obtain ⟨y, hy⟩ : ∃ y, D[i]? = some y := ⟨_, List.getElem?_eq_getElem (by rw [HND.out]; omega)⟩
      have hlt := HTW.out.1 i y hy (by omega)
      rw [decide_eq_true hiM] at hlt
      have hz : Op.bytesLess y.1.toList n.toList = true := hlt
      obtain ⟨b0, o0, rfl, hcc⟩ := HRD.out.get hy
      have d0 := hcc i y hy 0 _ rfl
      rw [Nat.add_zero] at d0
      have hI : (i : Int) < (ND : Int) := by omega
      obtain ⟨y1, y2⟩ := y
      clear hcc hy hlt
      go_wp2_with fail
      exact ⟨⟨i + 1, by go_num, by omega, by trivial⟩, by simp [intOf]; omega⟩
    · obtain rfl : i = M := by omega
      have HEND : Hid (∀ (y : ByteArray × ByteArray), D[i]? = some y → Op.bytesLess y.1.toList n.toList = false) := Lib.hid fun y hy => by
        have := HTW.out.1 i y hy (by omega)
        rw [decide_eq_false hiM] at this
        exact this
      by_cases hiN : i < ND
      · obtain ⟨y, hy⟩ : ∃ y, D[i]? = some y := ⟨_, List.getElem?_eq_getElem (by rw [HND.out]; omega)⟩
        have hz := HEND.out y hy
        obtain ⟨b0, o0, rfl, hcc⟩ := HRD.out.get hy
        have d0 := hcc i y hy 0 _ rfl
        rw [Nat.add_zero] at d0
        have hI : (i : Int) < (ND : Int) := by omega
        obtain ⟨y1, y2⟩ := y
        clear hcc hy
        go_upto_region 5 with (fail)
        clear hz d0 hI hiM hiN
        have f0 := frozen_of_row W4 _ 0 _ _ HX4.out.1
        refine regionL (S := fun V => V.cell? ⟨w.heap.size, 0, none⟩ = some (.slice (some ⟨b0, o0, none⟩) ND c4)) (L := 17) (by kernel_rfl) ?_ (fun hHeld => ?_)
        · exact k0
        refine takeL (i := 1) (k := 29) (v := ?_) rfl (by kernel_rfl) (by kernel_rfl) (by kernel_rfl) (by kernel_rfl) (fun _ _ _ h => h) (by kernel_rfl) (by kernel_rfl) (by kernel_rfl) (by rfl) ?_ (by assumption) ?_
        rotate_left
        · intro w hSw; (try dsimp only at hSw); go_simp <;> (with_reducible rfl)
        simp only [List.setIfInBounds_toArray, List.set_cons_zero, List.set_cons_succ]
        refine takeL (i := 2) (k := 30) (v := ?_) rfl (by kernel_rfl) (by kernel_rfl) (by kernel_rfl) (by kernel_rfl) (fun _ _ _ h => h) (by kernel_rfl) (by kernel_rfl) (by kernel_rfl) (by rfl) ?_ (by assumption) ?_
        rotate_left
        · intro w hSw; (try dsimp only at hSw); go_simp <;> (with_reducible rfl)
        simp only [List.setIfInBounds_toArray, List.set_cons_zero, List.set_cons_succ]
        refine takeL (i := 3) (k := 31) (v := ?_) rfl (by kernel_rfl) (by kernel_rfl) (by kernel_rfl) (by kernel_rfl) (fun _ _ _ h => h) (by kernel_rfl) (by kernel_rfl) (by kernel_rfl) (by rfl) ?_ (by assumption) ?_
        rotate_left
        · intro w hSw; (try dsimp only at hSw); go_simp <;> (with_reducible rfl)
        simp only [List.setIfInBounds_toArray, List.set_cons_zero, List.set_cons_succ]
        refine takeL (i := 4) (k := 32) (v := .slice qa i c4) rfl (by kernel_rfl) (by kernel_rfl) (by kernel_rfl) (by kernel_rfl) (fun _ _ _ h => h) (by kernel_rfl) (by kernel_rfl) (by kernel_rfl) (by rfl) ?_ (by assumption) ?_
        · intro w hSw; have ia := HIA.out; (try dsimp only at hSw); go_simp <;> (with_reducible rfl)
        simp only [List.setIfInBounds_toArray, List.set_cons_zero, List.set_cons_succ]
        refine takeL (i := 6) (k := 34) (v := ?_) rfl (by kernel_rfl) (by kernel_rfl) (by kernel_rfl) (by kernel_rfl) (fun _ _ _ h => h) (by kernel_rfl) (by kernel_rfl) (by kernel_rfl) (by rfl) ?_ (by assumption) ?_
        rotate_left
        · intro w hSw; (try dsimp only at hSw); go_simp <;> (with_reducible rfl)
        simp only [List.setIfInBounds_toArray, List.set_cons_zero, List.set_cons_succ]
        refine takeL (i := 7) (k := 35) (v := ?_) rfl (by kernel_rfl) (by kernel_rfl) (by kernel_rfl) (by kernel_rfl) (fun _ _ _ h => h) (by kernel_rfl) (by kernel_rfl) (by kernel_rfl) (by rfl) ?_ (by assumption) ?_
        rotate_left
        · intro w hSw; (try dsimp only at hSw); go_simp <;> (with_reducible rfl)
        simp only [List.setIfInBounds_toArray, List.set_cons_zero, List.set_cons_succ]
        refine takeL (i := 8) (k := 36) (v := ?_) rfl (by kernel_rfl) (by kernel_rfl) (by kernel_rfl) (by kernel_rfl) (fun _ _ _ h => h) (by kernel_rfl) (by kernel_rfl) (by kernel_rfl) (by rfl) ?_ (by assumption) ?_
        rotate_left
        · intro w hSw; (try dsimp only at hSw); go_simp <;> (with_reducible rfl)
        simp only [List.setIfInBounds_toArray, List.set_cons_zero, List.set_cons_succ]
        refine takeL (i := 11) (k := 39) (v := ?_) rfl (by kernel_rfl) (by kernel_rfl) (by kernel_rfl) (by kernel_rfl) (fun _ _ _ h => h) (by kernel_rfl) (by kernel_rfl) (by kernel_rfl) (by rfl) ?_ (by assumption) ?_
        rotate_left
        · intro w hSw; (try dsimp only at hSw); go_simp <;> (with_reducible rfl)
        simp only [List.setIfInBounds_toArray, List.set_cons_zero, List.set_cons_succ]
        refine takeL (i := 12) (k := 40) (v := ?_) rfl (by kernel_rfl) (by kernel_rfl) (by kernel_rfl) (by kernel_rfl) (fun _ _ _ h => h) (by kernel_rfl) (by kernel_rfl) (by kernel_rfl) (by rfl) ?_ (by assumption) ?_
        rotate_left
        · intro w hSw; (try dsimp only at hSw); go_simp <;> (with_reducible rfl)
        simp only [List.setIfInBounds_toArray, List.set_cons_zero, List.set_cons_succ]
        refine takeL (i := 13) (k := 41) (v := ?_) rfl (by kernel_rfl) (by kernel_rfl) (by kernel_rfl) (by kernel_rfl) (fun _ _ _ h => h) (by kernel_rfl) (by kernel_rfl) (by kernel_rfl) (by rfl) ?_ (by assumption) ?_
        rotate_left
        · intro w hSw; (try dsimp only at hSw); go_simp <;> (with_reducible rfl)
        simp only [List.setIfInBounds_toArray, List.set_cons_zero, List.set_cons_succ]
        refine takeL (i := 14) (k := 42) (v := .slice qc Dc Ec) rfl (by kernel_rfl) (by kernel_rfl) (by kernel_rfl) (by kernel_rfl) (fun _ _ _ h => h) (by kernel_rfl) (by kernel_rfl) (by kernel_rfl) (by rfl) ?_ (by assumption) ?_
        · intro w hSw; have ic := HIC.out; (try dsimp only at hSw); go_simp <;> (with_reducible rfl)
        simp only [List.setIfInBounds_toArray, List.set_cons_zero, List.set_cons_succ]
        have HSX := Lib.hid (fun (W : World) (hW : Below W4.heap.size W4 W) => (hW.cell (p := ⟨w.heap.size, 0, none⟩) HXL.out.1).trans k0)
        obtain ⟨J1, hJ1⟩ : ∃ J, A ++ [(n, x)] = J := ⟨_, rfl⟩
        obtain ⟨J2, hJ2⟩ : ∃ J, J1 ++ C = J := ⟨_, rfl⟩
        have HJ := Lib.hid (show J2 = A ++ (n, x) :: C by rw [← hJ2, ← hJ1]; simp)
        have HJJ := Lib.hid (And.intro hJ1 hJ2)
        have HLN := Lib.hid (show A.length ≤ 1000 ∧ J1.length ≤ 1001 ∧ C.length ≤ 1000 by have h1 := HTW.out.2.2.1; have h2 := HTW.out.2.2.2; rw [← hJ1]; simp; omega)
        clear hJ1 hJ2 hHeld
        refine twoL (i := 0) (j := 9) (by kernel_rfl) rfl rfl (by kernel_rfl) (by kernel_rfl) (fun K hK => ?_) (fun K hK => ?_)
        · go_simp
          refine hK.out _ _ ?_ ?_
          · exact .inr (HSX.out _ (en_alloc (Below.refl _ _) _).drew)
          clear hK K
          obtain ⟨w5, hw5⟩ : ∃ W, (W4.alloc (.cells #[] 44)).drew = W := ⟨_, rfl⟩
          rw [hw5]
          have Zw5 := Lib.hid (show Blk w5 W4.heap.size (.cells #[] 44) by rw [← hw5]; exact Blk.new rfl)
          have Belw5 := Lib.hid (show Below W4.heap.size W4 w5 by rw [← hw5]; exact (en_alloc (Below.refl _ _) _).drew)
          have Ltw5 := Lib.hid (show W4.heap.size < w5.heap.size from Zw5.out.lt)
          refine twoL (i := 5) (j := 9) (by kernel_rfl) rfl rfl (by kernel_rfl) (by kernel_rfl) (fun K hK => ?_) (fun K hK => ?_)
          · refine wp_append_rd w5 (.tmp 28) (.tmp 32) 22 rfl 44 i0 _ 32 Try.underlying22 HI.out.1 HI.out.2.1 HI.out.2.2.1 HI.out.2.2.2 rfl bE W4.heap.size (.slice (some ⟨W4.heap.size, 0, none⟩) 0 0) [] A rfl (Zw5.out.own0 (sz := 2) (Nat.le_refl _)) _ rfl (HR4.out.1.below Belw5.out (Nat.le_refl _)) (by have := HLN.out; simp; omega) (by have := HLN.out; unfold maxLen; simp; omega) (Belw5.out.size) A (by simp) ?_
            intro q5 q5d w6 hown hg
            have Ow6 := Lib.hid hown
            have Gw6 := Lib.hid hg
            have Belw6 := Lib.hid (show Below W4.heap.size W4 w6 from Belw5.out.grown hg Belw5.out.size (fun k hk => (((Zw5.out.own0 (sz := 2) (Nat.le_refl _))).lt k hk).1))
            clear hown hg
            refine hK.out _ _ ?_ ?_
            · exact .inr (HSX.out _ Belw6.out)
            clear hK K
            simp only [Act.put, List.getElem_toArray, List.getElem_cons_succ, List.getElem_cons_zero, List.setIfInBounds_toArray, List.set_cons_zero, List.set_cons_succ]
            refine nextL (i := 9) (by kernel_rfl) rfl (by kernel_rfl) (fun K hK => ?_)
            go_simp
            refine hK.out _ _ ?_ ?_
            · exact .inr (HSX.out _ (en_alloc Belw6.out _))
            clear hK K
            obtain ⟨w7, hw7⟩ : ∃ W, w6.alloc (.cells #[.string n, .string x] 44) = W := ⟨_, rfl⟩
            rw [hw7]
            have Yw7 := Lib.hid (show Blk w7 w6.heap.size (.cells #[.string n, .string x] 44) by rw [← hw7]; exact Blk.new rfl)
            have Belw7 := Lib.hid (show Below W4.heap.size W4 w7 by rw [← hw7]; exact (en_alloc Belw6.out _))
            have Ltw7 := Lib.hid (show w6.heap.size < w7.heap.size from Yw7.out.lt)
            have own7 := Lib.hid (show w7.ownsRow W4.heap.size 44 2 (.slice q5 A.length q5d) A.length (A.flatMap bC) by rw [← hw7]; exact Ow6.out.alloc _)
            refine nextL (i := 10) (by kernel_rfl) rfl (by kernel_rfl) (fun K hK => ?_)
            refine wp_append_rd w7 (.tmp 33) (.tmp 37) 22 rfl 44 i0 _ 32 Try.underlying22 HI.out.1 HI.out.2.1 HI.out.2.2.1 HI.out.2.2.2 rfl bE W4.heap.size (.slice q5 A.length q5d) A [(n, x)] rfl own7.out _ rfl (Blk.one (enc := bC) (x := (n, x)) Yw7.out) (by have := HLN.out; simp; omega) (by have := HLN.out; unfold maxLen; simp; omega) (Belw7.out.size) J1 HJJ.out.1 ?_
            intro q6 q6d w8 hown hg
            have Ow8 := Lib.hid hown
            have Gw8 := Lib.hid hg
            have Belw8 := Lib.hid (show Below W4.heap.size W4 w8 from Belw7.out.grown hg Belw7.out.size (fun k hk => ((own7.out).lt k hk).1))
            clear hown hg
            refine hK.out _ _ ?_ ?_
            · exact .inr (HSX.out _ Belw8.out)
            clear hK K
            simp only [Act.put, List.getElem_toArray, List.getElem_cons_succ, List.getElem_cons_zero, List.setIfInBounds_toArray, List.set_cons_zero, List.set_cons_succ]
            refine nextL (i := 15) (by kernel_rfl) rfl (by kernel_rfl) (fun K hK => ?_)
            refine wp_append_rd w8 (.tmp 38) (.tmp 42) 22 rfl 44 i0 _ 32 Try.underlying22 HI.out.1 HI.out.2.1 HI.out.2.2.1 HI.out.2.2.2 rfl bE W4.heap.size (.slice q6 J1.length q6d) J1 C rfl (Ow8.out) _ rfl (HR4.out.2.1.below Belw8.out (Nat.le_refl _)) (by have := HLN.out; simp; omega) (by have := HLN.out; unfold maxLen; simp; omega) (Belw8.out.size) J2 HJJ.out.2 ?_
            intro q7 q7d w9 hown hg
            have Ow9 := Lib.hid hown
            have Gw9 := Lib.hid hg
            have Belw9 := Lib.hid (show Below W4.heap.size W4 w9 from Belw8.out.grown hg Belw8.out.size (fun k hk => (((Ow8.out)).lt k hk).1))
            clear hown hg
            refine hK.out _ _ ?_ ?_
            · exact .inr (HSX.out _ Belw9.out)
            clear hK K
            simp only [Act.put, List.getElem_toArray, List.getElem_cons_succ, List.getElem_cons_zero, List.setIfInBounds_toArray, List.set_cons_zero, List.set_cons_succ]
            have hX9 := (Belw9.out.block _ HXL.out.1).trans HX4.out.1
            have hY9 := (Belw9.out.block _ HXL.out.2).trans HX4.out.2.1
            have c0 := cell_of_row w9 _ 0 _ _ _ hX9
            have c1 := cell_of_row w9 _ 1 _ _ _ hX9
            have c2 := cell_of_row w9 _ 2 _ _ _ hX9
            have g0 := frozen_of_row w9 _ 0 _ _ hX9
            refine nextL (i := 16) (by kernel_rfl) rfl (by kernel_rfl) (fun K hK => ?_)
            go_simp
            refine hK.out _ _ ?_ ?_
            · exact .inr c0
            clear hK K
            refine nextL (i := 17) (by kernel_rfl) rfl (by kernel_rfl) (fun K hK => ?_)
            go_simp
            refine hK.out _ _ ?_ ?_
            · exact .inl (by kernel_rfl)
            clear hK K
            refine doneL (by kernel_rfl) ?_ _
            have y0 := cell_of_row w9 _ 0 _ _ _ hY9
            have y1 := cell_of_row w9 _ 1 _ _ _ hY9
            have y2 := cell_of_row w9 _ 2 _ _ _ hY9
            have z0 := frozen_of_row w9 _ 0 _ _ hY9
            have z1 := frozen_of_row w9 _ 1 _ _ hY9
            have z2 := frozen_of_row w9 _ 2 _ _ hY9
            have HE := Lib.hid (env_first (v := .slice q7 J2.length q7d) (E := ⟨J2, E.args, E.funs⟩) hX9 hY9 (Rd.of_own bE Ow9.out) (HR4.out.2.2.1.below Belw9.out (Nat.le_refl _)) (HR4.out.2.2.2.below Belw9.out (Nat.le_refl _)))
            have HQ := Lib.hid (env_set (k := w.heap.size + 1) ((HX4.out.2.2.trans (Belw9.out.mono (Nat.le_of_lt HXL.out.1))).setCell (p := ⟨w.heap.size, 0, none⟩) (Nat.le_refl _) (.slice q7 J2.length q7d)) (Nat.le_succ _) (.slice q7 J2.length q7d) (.slice p5 N5 c5) (.slice p6 N6 c6))
            clear hX9 hY9
            generalize J2.length = NJ at *
            go_wp2_with fail
            (try simp only [Exit.inBlock, Exit.then])
            refine bodyPost_ret (v := .agg #[.slice q7 NJ q7d, .slice p5 N5 c5, .slice p6 N6 c6]) ?_ rfl ⟨_, rfl, (by have h1 := HE.out.1; rw [HJ.out] at h1; exact h1), HQ.out⟩
            exact ret_env rfl HE.out.2 rfl
          · go_simp
            refine hK.out _ _ ?_ ?_
            · exact .inr (HSX.out _ (en_alloc Belw5.out _))
            clear hK K
            obtain ⟨w6, hw6⟩ : ∃ W, w5.alloc (.cells #[.string n, .string x] 44) = W := ⟨_, rfl⟩
            rw [hw6]
            have Yw6 := Lib.hid (show Blk w6 w5.heap.size (.cells #[.string n, .string x] 44) by rw [← hw6]; exact Blk.new rfl)
            have Belw6 := Lib.hid (show Below W4.heap.size W4 w6 by rw [← hw6]; exact (en_alloc Belw5.out _))
            have Ltw6 := Lib.hid (show w5.heap.size < w6.heap.size from Yw6.out.lt)
            have Zw6 := Lib.hid (show Blk w6 W4.heap.size (.cells #[] 44) by rw [← hw6]; exact Zw5.out.alloc _)
            refine nextL (i := 5) (by kernel_rfl) rfl (by kernel_rfl) (fun K hK => ?_)
            refine wp_append_rd w6 (.tmp 28) (.tmp 32) 22 rfl 44 i0 _ 32 Try.underlying22 HI.out.1 HI.out.2.1 HI.out.2.2.1 HI.out.2.2.2 rfl bE W4.heap.size (.slice (some ⟨W4.heap.size, 0, none⟩) 0 0) [] A rfl (Zw6.out.own0 (sz := 2) (Nat.le_refl _)) _ rfl (HR4.out.1.below Belw6.out (Nat.le_refl _)) (by have := HLN.out; simp; omega) (by have := HLN.out; unfold maxLen; simp; omega) (Belw6.out.size) A (by simp) ?_
            intro q5 q5d w7 hown hg
            have Ow7 := Lib.hid hown
            have Gw7 := Lib.hid hg
            have Belw7 := Lib.hid (show Below W4.heap.size W4 w7 from Belw6.out.grown hg Belw6.out.size (fun k hk => (((Zw6.out.own0 (sz := 2) (Nat.le_refl _))).lt k hk).1))
            clear hown hg
            refine hK.out _ _ ?_ ?_
            · exact .inr (HSX.out _ Belw7.out)
            clear hK K
            simp only [Act.put, List.getElem_toArray, List.getElem_cons_succ, List.getElem_cons_zero, List.setIfInBounds_toArray, List.set_cons_zero, List.set_cons_succ]
            have Yw7 := Lib.hid (Yw6.out.grown Gw7.out (by have := Ltw5.out; simp [Value.ownBlock]; omega))
            refine nextL (i := 10) (by kernel_rfl) rfl (by kernel_rfl) (fun K hK => ?_)
            refine wp_append_rd w7 (.tmp 33) (.tmp 37) 22 rfl 44 i0 _ 32 Try.underlying22 HI.out.1 HI.out.2.1 HI.out.2.2.1 HI.out.2.2.2 rfl bE W4.heap.size (.slice q5 A.length q5d) A [(n, x)] rfl Ow7.out _ rfl (Blk.one (enc := bC) (x := (n, x)) Yw7.out) (by have := HLN.out; simp; omega) (by have := HLN.out; unfold maxLen; simp; omega) (Belw7.out.size) J1 HJJ.out.1 ?_
            intro q6 q6d w8 hown hg
            have Ow8 := Lib.hid hown
            have Gw8 := Lib.hid hg
            have Belw8 := Lib.hid (show Below W4.heap.size W4 w8 from Belw7.out.grown hg Belw7.out.size (fun k hk => ((Ow7.out).lt k hk).1))
            clear hown hg
            refine hK.out _ _ ?_ ?_
            · exact .inr (HSX.out _ Belw8.out)
            clear hK K
            simp only [Act.put, List.getElem_toArray, List.getElem_cons_succ, List.getElem_cons_zero, List.setIfInBounds_toArray, List.set_cons_zero, List.set_cons_succ]
            refine nextL (i := 15) (by kernel_rfl) rfl (by kernel_rfl) (fun K hK => ?_)
            refine wp_append_rd w8 (.tmp 38) (.tmp 42) 22 rfl 44 i0 _ 32 Try.underlying22 HI.out.1 HI.out.2.1 HI.out.2.2.1 HI.out.2.2.2 rfl bE W4.heap.size (.slice q6 J1.length q6d) J1 C rfl (Ow8.out) _ rfl (HR4.out.2.1.below Belw8.out (Nat.le_refl _)) (by have := HLN.out; simp; omega) (by have := HLN.out; unfold maxLen; simp; omega) (Belw8.out.size) J2 HJJ.out.2 ?_
            intro q7 q7d w9 hown hg
            have Ow9 := Lib.hid hown
            have Gw9 := Lib.hid hg
            have Belw9 := Lib.hid (show Below W4.heap.size W4 w9 from Belw8.out.grown hg Belw8.out.size (fun k hk => (((Ow8.out)).lt k hk).1))
            clear hown hg
            refine hK.out _ _ ?_ ?_
            · exact .inr (HSX.out _ Belw9.out)
            clear hK K
            simp only [Act.put, List.getElem_toArray, List.getElem_cons_succ, List.getElem_cons_zero, List.setIfInBounds_toArray, List.set_cons_zero, List.set_cons_succ]
            have hX9 := (Belw9.out.block _ HXL.out.1).trans HX4.out.1
            have hY9 := (Belw9.out.block _ HXL.out.2).trans HX4.out.2.1
            have c0 := cell_of_row w9 _ 0 _ _ _ hX9
            have c1 := cell_of_row w9 _ 1 _ _ _ hX9
            have c2 := cell_of_row w9 _ 2 _ _ _ hX9
            have g0 := frozen_of_row w9 _ 0 _ _ hX9
            refine nextL (i := 16) (by kernel_rfl) rfl (by kernel_rfl) (fun K hK => ?_)
            go_simp
            refine hK.out _ _ ?_ ?_
            · exact .inr c0
            clear hK K
            refine nextL (i := 17) (by kernel_rfl) rfl (by kernel_rfl) (fun K hK => ?_)
            go_simp
            refine hK.out _ _ ?_ ?_
            · exact .inl (by kernel_rfl)
            clear hK K
            refine doneL (by kernel_rfl) ?_ _
            have y0 := cell_of_row w9 _ 0 _ _ _ hY9
            have y1 := cell_of_row w9 _ 1 _ _ _ hY9
            have y2 := cell_of_row w9 _ 2 _ _ _ hY9
            have z0 := frozen_of_row w9 _ 0 _ _ hY9
            have z1 := frozen_of_row w9 _ 1 _ _ hY9
            have z2 := frozen_of_row w9 _ 2 _ _ hY9
            have HE := Lib.hid (env_first (v := .slice q7 J2.length q7d) (E := ⟨J2, E.args, E.funs⟩) hX9 hY9 (Rd.of_own bE Ow9.out) (HR4.out.2.2.1.below Belw9.out (Nat.le_refl _)) (HR4.out.2.2.2.below Belw9.out (Nat.le_refl _)))
            have HQ := Lib.hid (env_set (k := w.heap.size + 1) ((HX4.out.2.2.trans (Belw9.out.mono (Nat.le_of_lt HXL.out.1))).setCell (p := ⟨w.heap.size, 0, none⟩) (Nat.le_refl _) (.slice q7 J2.length q7d)) (Nat.le_succ _) (.slice q7 J2.length q7d) (.slice p5 N5 c5) (.slice p6 N6 c6))
            clear hX9 hY9
            generalize J2.length = NJ at *
            go_wp2_with fail
            (try simp only [Exit.inBlock, Exit.then])
            refine bodyPost_ret (v := .agg #[.slice q7 NJ q7d, .slice p5 N5 c5, .slice p6 N6 c6]) ?_ rfl ⟨_, rfl, (by have h1 := HE.out.1; rw [HJ.out] at h1; exact h1), HQ.out⟩
            exact ret_env rfl HE.out.2 rfl
        · go_simp
          refine hK.out _ _ ?_ ?_
          · exact .inr (HSX.out _ (en_alloc (Below.refl _ _) _).drew)
          clear hK K
          obtain ⟨w5, hw5⟩ : ∃ W, (W4.alloc (.cells #[.string n, .string x] 44)).drew = W := ⟨_, rfl⟩
          rw [hw5]
          have Yw5 := Lib.hid (show Blk w5 W4.heap.size (.cells #[.string n, .string x] 44) by rw [← hw5]; exact Blk.new rfl)
          have Belw5 := Lib.hid (show Below W4.heap.size W4 w5 by rw [← hw5]; exact (en_alloc (Below.refl _ _) _).drew)
          have Ltw5 := Lib.hid (show W4.heap.size < w5.heap.size from Yw5.out.lt)
          refine nextL (i := 0) (by kernel_rfl) rfl (by kernel_rfl) (fun K hK => ?_)
          go_simp
          refine hK.out _ _ ?_ ?_
          · exact .inr (HSX.out _ (en_alloc Belw5.out _))
          clear hK K
          obtain ⟨w6, hw6⟩ : ∃ W, w5.alloc (.cells #[] 44) = W := ⟨_, rfl⟩
          rw [hw6]
          have Zw6 := Lib.hid (show Blk w6 w5.heap.size (.cells #[] 44) by rw [← hw6]; exact Blk.new rfl)
          have Belw6 := Lib.hid (show Below W4.heap.size W4 w6 by rw [← hw6]; exact (en_alloc Belw5.out _))
          have Ltw6 := Lib.hid (show w5.heap.size < w6.heap.size from Zw6.out.lt)
          have Yw6 := Lib.hid (show Blk w6 W4.heap.size (.cells #[.string n, .string x] 44) by rw [← hw6]; exact Yw5.out.alloc _)
          refine nextL (i := 5) (by kernel_rfl) rfl (by kernel_rfl) (fun K hK => ?_)
          refine wp_append_rd w6 (.tmp 28) (.tmp 32) 22 rfl 44 i0 _ 32 Try.underlying22 HI.out.1 HI.out.2.1 HI.out.2.2.1 HI.out.2.2.2 rfl bE W4.heap.size (.slice (some ⟨w5.heap.size, 0, none⟩) 0 0) [] A rfl (Zw6.out.own0 (sz := 2) (Nat.le_of_lt Ltw5.out)) _ rfl (HR4.out.1.below Belw6.out (Nat.le_refl _)) (by have := HLN.out; simp; omega) (by have := HLN.out; unfold maxLen; simp; omega) (Belw6.out.size) A (by simp) ?_
          intro q5 q5d w7 hown hg
          have Ow7 := Lib.hid hown
          have Gw7 := Lib.hid hg
          have Belw7 := Lib.hid (show Below W4.heap.size W4 w7 from Belw6.out.grown hg Belw6.out.size (fun k hk => (((Zw6.out.own0 (sz := 2) (Nat.le_of_lt Ltw5.out))).lt k hk).1))
          clear hown hg
          refine hK.out _ _ ?_ ?_
          · exact .inr (HSX.out _ Belw7.out)
          clear hK K
          simp only [Act.put, List.getElem_toArray, List.getElem_cons_succ, List.getElem_cons_zero, List.setIfInBounds_toArray, List.set_cons_zero, List.set_cons_succ]
          have Yw7 := Lib.hid (Yw6.out.grown Gw7.out (by have := Ltw5.out; simp [Value.ownBlock]; omega))
          refine nextL (i := 10) (by kernel_rfl) rfl (by kernel_rfl) (fun K hK => ?_)
          refine wp_append_rd w7 (.tmp 33) (.tmp 37) 22 rfl 44 i0 _ 32 Try.underlying22 HI.out.1 HI.out.2.1 HI.out.2.2.1 HI.out.2.2.2 rfl bE W4.heap.size (.slice q5 A.length q5d) A [(n, x)] rfl Ow7.out _ rfl (Blk.one (enc := bC) (x := (n, x)) Yw7.out) (by have := HLN.out; simp; omega) (by have := HLN.out; unfold maxLen; simp; omega) (Belw7.out.size) J1 HJJ.out.1 ?_
          intro q6 q6d w8 hown hg
          have Ow8 := Lib.hid hown
          have Gw8 := Lib.hid hg
          have Belw8 := Lib.hid (show Below W4.heap.size W4 w8 from Belw7.out.grown hg Belw7.out.size (fun k hk => ((Ow7.out).lt k hk).1))
          clear hown hg
          refine hK.out _ _ ?_ ?_
          · exact .inr (HSX.out _ Belw8.out)
          clear hK K
          simp only [Act.put, List.getElem_toArray, List.getElem_cons_succ, List.getElem_cons_zero, List.setIfInBounds_toArray, List.set_cons_zero, List.set_cons_succ]
          refine nextL (i := 15) (by kernel_rfl) rfl (by kernel_rfl) (fun K hK => ?_)
          refine wp_append_rd w8 (.tmp 38) (.tmp 42) 22 rfl 44 i0 _ 32 Try.underlying22 HI.out.1 HI.out.2.1 HI.out.2.2.1 HI.out.2.2.2 rfl bE W4.heap.size (.slice q6 J1.length q6d) J1 C rfl (Ow8.out) _ rfl (HR4.out.2.1.below Belw8.out (Nat.le_refl _)) (by have := HLN.out; simp; omega) (by have := HLN.out; unfold maxLen; simp; omega) (Belw8.out.size) J2 HJJ.out.2 ?_
          intro q7 q7d w9 hown hg
          have Ow9 := Lib.hid hown
          have Gw9 := Lib.hid hg
          have Belw9 := Lib.hid (show Below W4.heap.size W4 w9 from Belw8.out.grown hg Belw8.out.size (fun k hk => (((Ow8.out)).lt k hk).1))
          clear hown hg
          refine hK.out _ _ ?_ ?_
          · exact .inr (HSX.out _ Belw9.out)
          clear hK K
          simp only [Act.put, List.getElem_toArray, List.getElem_cons_succ, List.getElem_cons_zero, List.setIfInBounds_toArray, List.set_cons_zero, List.set_cons_succ]
          have hX9 := (Belw9.out.block _ HXL.out.1).trans HX4.out.1
          have hY9 := (Belw9.out.block _ HXL.out.2).trans HX4.out.2.1
          have c0 := cell_of_row w9 _ 0 _ _ _ hX9
          have c1 := cell_of_row w9 _ 1 _ _ _ hX9
          have c2 := cell_of_row w9 _ 2 _ _ _ hX9
          have g0 := frozen_of_row w9 _ 0 _ _ hX9
          refine nextL (i := 16) (by kernel_rfl) rfl (by kernel_rfl) (fun K hK => ?_)
          go_simp
          refine hK.out _ _ ?_ ?_
          · exact .inr c0
          clear hK K
          refine nextL (i := 17) (by kernel_rfl) rfl (by kernel_rfl) (fun K hK => ?_)
          go_simp
          refine hK.out _ _ ?_ ?_
          · exact .inl (by kernel_rfl)
          clear hK K
          refine doneL (by kernel_rfl) ?_ _
          have y0 := cell_of_row w9 _ 0 _ _ _ hY9
          have y1 := cell_of_row w9 _ 1 _ _ _ hY9
          have y2 := cell_of_row w9 _ 2 _ _ _ hY9
          have z0 := frozen_of_row w9 _ 0 _ _ hY9
          have z1 := frozen_of_row w9 _ 1 _ _ hY9
          have z2 := frozen_of_row w9 _ 2 _ _ hY9
          have HE := Lib.hid (env_first (v := .slice q7 J2.length q7d) (E := ⟨J2, E.args, E.funs⟩) hX9 hY9 (Rd.of_own bE Ow9.out) (HR4.out.2.2.1.below Belw9.out (Nat.le_refl _)) (HR4.out.2.2.2.below Belw9.out (Nat.le_refl _)))
          have HQ := Lib.hid (env_set (k := w.heap.size + 1) ((HX4.out.2.2.trans (Belw9.out.mono (Nat.le_of_lt HXL.out.1))).setCell (p := ⟨w.heap.size, 0, none⟩) (Nat.le_refl _) (.slice q7 J2.length q7d)) (Nat.le_succ _) (.slice q7 J2.length q7d) (.slice p5 N5 c5) (.slice p6 N6 c6))
          clear hX9 hY9
          generalize J2.length = NJ at *
          go_wp2_with fail
          (try simp only [Exit.inBlock, Exit.then])
          refine bodyPost_ret (v := .agg #[.slice q7 NJ q7d, .slice p5 N5 c5, .slice p6 N6 c6]) ?_ rfl ⟨_, rfl, (by have h1 := HE.out.1; rw [HJ.out] at h1; exact h1), HQ.out⟩
          exact ret_env rfl HE.out.2 rfl
      · have hI : ¬ ((i : Int) < (ND : Int)) := by omega
        go_upto_region 5 with (fail)
        clear hI hiM hiN
        have f0 := frozen_of_row W4 _ 0 _ _ HX4.out.1
        refine regionL (S := fun V => V.cell? ⟨w.heap.size, 0, none⟩ = some (.slice p4 ND c4)) (L := 17) (by kernel_rfl) ?_ (fun hHeld => ?_)
        · exact k0
        refine takeL (i := 1) (k := 29) (v := ?_) rfl (by kernel_rfl) (by kernel_rfl) (by kernel_rfl) (by kernel_rfl) (fun _ _ _ h => h) (by kernel_rfl) (by kernel_rfl) (by kernel_rfl) (by rfl) ?_ (by assumption) ?_
        rotate_left
        · intro w hSw; (try dsimp only at hSw); go_simp <;> (with_reducible rfl)
        simp only [List.setIfInBounds_toArray, List.set_cons_zero, List.set_cons_succ]
        refine takeL (i := 2) (k := 30) (v := ?_) rfl (by kernel_rfl) (by kernel_rfl) (by kernel_rfl) (by kernel_rfl) (fun _ _ _ h => h) (by kernel_rfl) (by kernel_rfl) (by kernel_rfl) (by rfl) ?_ (by assumption) ?_
        rotate_left
        · intro w hSw; (try dsimp only at hSw); go_simp <;> (with_reducible rfl)
        simp only [List.setIfInBounds_toArray, List.set_cons_zero, List.set_cons_succ]
        refine takeL (i := 3) (k := 31) (v := ?_) rfl (by kernel_rfl) (by kernel_rfl) (by kernel_rfl) (by kernel_rfl) (fun _ _ _ h => h) (by kernel_rfl) (by kernel_rfl) (by kernel_rfl) (by rfl) ?_ (by assumption) ?_
        rotate_left
        · intro w hSw; (try dsimp only at hSw); go_simp <;> (with_reducible rfl)
        simp only [List.setIfInBounds_toArray, List.set_cons_zero, List.set_cons_succ]
        refine takeL (i := 4) (k := 32) (v := .slice qa i c4) rfl (by kernel_rfl) (by kernel_rfl) (by kernel_rfl) (by kernel_rfl) (fun _ _ _ h => h) (by kernel_rfl) (by kernel_rfl) (by kernel_rfl) (by rfl) ?_ (by assumption) ?_
        · intro w hSw; have ia := HIA.out; (try dsimp only at hSw); go_simp <;> (with_reducible rfl)
        simp only [List.setIfInBounds_toArray, List.set_cons_zero, List.set_cons_succ]
        refine takeL (i := 6) (k := 34) (v := ?_) rfl (by kernel_rfl) (by kernel_rfl) (by kernel_rfl) (by kernel_rfl) (fun _ _ _ h => h) (by kernel_rfl) (by kernel_rfl) (by kernel_rfl) (by rfl) ?_ (by assumption) ?_
        rotate_left
        · intro w hSw; (try dsimp only at hSw); go_simp <;> (with_reducible rfl)
        simp only [List.setIfInBounds_toArray, List.set_cons_zero, List.set_cons_succ]
        refine takeL (i := 7) (k := 35) (v := ?_) rfl (by kernel_rfl) (by kernel_rfl) (by kernel_rfl) (by kernel_rfl) (fun _ _ _ h => h) (by kernel_rfl) (by kernel_rfl) (by kernel_rfl) (by rfl) ?_ (by assumption) ?_
        rotate_left
        · intro w hSw; (try dsimp only at hSw); go_simp <;> (with_reducible rfl)
        simp only [List.setIfInBounds_toArray, List.set_cons_zero, List.set_cons_succ]
        refine takeL (i := 8) (k := 36) (v := ?_) rfl (by kernel_rfl) (by kernel_rfl) (by kernel_rfl) (by kernel_rfl) (fun _ _ _ h => h) (by kernel_rfl) (by kernel_rfl) (by kernel_rfl) (by rfl) ?_ (by assumption) ?_
        rotate_left
        · intro w hSw; (try dsimp only at hSw); go_simp <;> (with_reducible rfl)
        simp only [List.setIfInBounds_toArray, List.set_cons_zero, List.set_cons_succ]
        refine takeL (i := 11) (k := 39) (v := ?_) rfl (by kernel_rfl) (by kernel_rfl) (by kernel_rfl) (by kernel_rfl) (fun _ _ _ h => h) (by kernel_rfl) (by kernel_rfl) (by kernel_rfl) (by rfl) ?_ (by assumption) ?_
        rotate_left
        · intro w hSw; (try dsimp only at hSw); go_simp <;> (with_reducible rfl)
        simp only [List.setIfInBounds_toArray, List.set_cons_zero, List.set_cons_succ]
        refine takeL (i := 12) (k := 40) (v := ?_) rfl (by kernel_rfl) (by kernel_rfl) (by kernel_rfl) (by kernel_rfl) (fun _ _ _ h => h) (by kernel_rfl) (by kernel_rfl) (by kernel_rfl) (by rfl) ?_ (by assumption) ?_
        rotate_left
        · intro w hSw; (try dsimp only at hSw); go_simp <;> (with_reducible rfl)
        simp only [List.setIfInBounds_toArray, List.set_cons_zero, List.set_cons_succ]
        refine takeL (i := 13) (k := 41) (v := ?_) rfl (by kernel_rfl) (by kernel_rfl) (by kernel_rfl) (by kernel_rfl) (fun _ _ _ h => h) (by kernel_rfl) (by kernel_rfl) (by kernel_rfl) (by rfl) ?_ (by assumption) ?_
        rotate_left
        · intro w hSw; (try dsimp only at hSw); go_simp <;> (with_reducible rfl)
        simp only [List.setIfInBounds_toArray, List.set_cons_zero, List.set_cons_succ]
        refine takeL (i := 14) (k := 42) (v := .slice qc Dc Ec) rfl (by kernel_rfl) (by kernel_rfl) (by kernel_rfl) (by kernel_rfl) (fun _ _ _ h => h) (by kernel_rfl) (by kernel_rfl) (by kernel_rfl) (by rfl) ?_ (by assumption) ?_
        · intro w hSw; have ic := HIC.out; (try dsimp only at hSw); go_simp <;> (with_reducible rfl)
        simp only [List.setIfInBounds_toArray, List.set_cons_zero, List.set_cons_succ]
        have HSX := Lib.hid (fun (W : World) (hW : Below W4.heap.size W4 W) => (hW.cell (p := ⟨w.heap.size, 0, none⟩) HXL.out.1).trans k0)
        obtain ⟨J1, hJ1⟩ : ∃ J, A ++ [(n, x)] = J := ⟨_, rfl⟩
        obtain ⟨J2, hJ2⟩ : ∃ J, J1 ++ C = J := ⟨_, rfl⟩
        have HJ := Lib.hid (show J2 = A ++ (n, x) :: C by rw [← hJ2, ← hJ1]; simp)
        have HJJ := Lib.hid (And.intro hJ1 hJ2)
        have HLN := Lib.hid (show A.length ≤ 1000 ∧ J1.length ≤ 1001 ∧ C.length ≤ 1000 by have h1 := HTW.out.2.2.1; have h2 := HTW.out.2.2.2; rw [← hJ1]; simp; omega)
        clear hJ1 hJ2 hHeld
        refine twoL (i := 0) (j := 9) (by kernel_rfl) rfl rfl (by kernel_rfl) (by kernel_rfl) (fun K hK => ?_) (fun K hK => ?_)
        · go_simp
          refine hK.out _ _ ?_ ?_
          · exact .inr (HSX.out _ (en_alloc (Below.refl _ _) _).drew)
          clear hK K
          obtain ⟨w5, hw5⟩ : ∃ W, (W4.alloc (.cells #[] 44)).drew = W := ⟨_, rfl⟩
          rw [hw5]
          have Zw5 := Lib.hid (show Blk w5 W4.heap.size (.cells #[] 44) by rw [← hw5]; exact Blk.new rfl)
          have Belw5 := Lib.hid (show Below W4.heap.size W4 w5 by rw [← hw5]; exact (en_alloc (Below.refl _ _) _).drew)
          have Ltw5 := Lib.hid (show W4.heap.size < w5.heap.size from Zw5.out.lt)
          refine twoL (i := 5) (j := 9) (by kernel_rfl) rfl rfl (by kernel_rfl) (by kernel_rfl) (fun K hK => ?_) (fun K hK => ?_)
          · refine wp_append_rd w5 (.tmp 28) (.tmp 32) 22 rfl 44 i0 _ 32 Try.underlying22 HI.out.1 HI.out.2.1 HI.out.2.2.1 HI.out.2.2.2 rfl bE W4.heap.size (.slice (some ⟨W4.heap.size, 0, none⟩) 0 0) [] A rfl (Zw5.out.own0 (sz := 2) (Nat.le_refl _)) _ rfl (HR4.out.1.below Belw5.out (Nat.le_refl _)) (by have := HLN.out; simp; omega) (by have := HLN.out; unfold maxLen; simp; omega) (Belw5.out.size) A (by simp) ?_
            intro q5 q5d w6 hown hg
            have Ow6 := Lib.hid hown
            have Gw6 := Lib.hid hg
            have Belw6 := Lib.hid (show Below W4.heap.size W4 w6 from Belw5.out.grown hg Belw5.out.size (fun k hk => (((Zw5.out.own0 (sz := 2) (Nat.le_refl _))).lt k hk).1))
            clear hown hg
            refine hK.out _ _ ?_ ?_
            · exact .inr (HSX.out _ Belw6.out)
            clear hK K
            simp only [Act.put, List.getElem_toArray, List.getElem_cons_succ, List.getElem_cons_zero, List.setIfInBounds_toArray, List.set_cons_zero, List.set_cons_succ]
            refine nextL (i := 9) (by kernel_rfl) rfl (by kernel_rfl) (fun K hK => ?_)
            go_simp
            refine hK.out _ _ ?_ ?_
            · exact .inr (HSX.out _ (en_alloc Belw6.out _))
            clear hK K
            obtain ⟨w7, hw7⟩ : ∃ W, w6.alloc (.cells #[.string n, .string x] 44) = W := ⟨_, rfl⟩
            rw [hw7]
            have Yw7 := Lib.hid (show Blk w7 w6.heap.size (.cells #[.string n, .string x] 44) by rw [← hw7]; exact Blk.new rfl)
            have Belw7 := Lib.hid (show Below W4.heap.size W4 w7 by rw [← hw7]; exact (en_alloc Belw6.out _))
            have Ltw7 := Lib.hid (show w6.heap.size < w7.heap.size from Yw7.out.lt)
            have own7 := Lib.hid (show w7.ownsRow W4.heap.size 44 2 (.slice q5 A.length q5d) A.length (A.flatMap bC) by rw [← hw7]; exact Ow6.out.alloc _)
            refine nextL (i := 10) (by kernel_rfl) rfl (by kernel_rfl) (fun K hK => ?_)
            refine wp_append_rd w7 (.tmp 33) (.tmp 37) 22 rfl 44 i0 _ 32 Try.underlying22 HI.out.1 HI.out.2.1 HI.out.2.2.1 HI.out.2.2.2 rfl bE W4.heap.size (.slice q5 A.length q5d) A [(n, x)] rfl own7.out _ rfl (Blk.one (enc := bC) (x := (n, x)) Yw7.out) (by have := HLN.out; simp; omega) (by have := HLN.out; unfold maxLen; simp; omega) (Belw7.out.size) J1 HJJ.out.1 ?_
            intro q6 q6d w8 hown hg
            have Ow8 := Lib.hid hown
            have Gw8 := Lib.hid hg
            have Belw8 := Lib.hid (show Below W4.heap.size W4 w8 from Belw7.out.grown hg Belw7.out.size (fun k hk => ((own7.out).lt k hk).1))
            clear hown hg
            refine hK.out _ _ ?_ ?_
            · exact .inr (HSX.out _ Belw8.out)
            clear hK K
            simp only [Act.put, List.getElem_toArray, List.getElem_cons_succ, List.getElem_cons_zero, List.setIfInBounds_toArray, List.set_cons_zero, List.set_cons_succ]
            refine nextL (i := 15) (by kernel_rfl) rfl (by kernel_rfl) (fun K hK => ?_)
            refine wp_append_rd w8 (.tmp 38) (.tmp 42) 22 rfl 44 i0 _ 32 Try.underlying22 HI.out.1 HI.out.2.1 HI.out.2.2.1 HI.out.2.2.2 rfl bE W4.heap.size (.slice q6 J1.length q6d) J1 C rfl (Ow8.out) _ rfl (HR4.out.2.1.below Belw8.out (Nat.le_refl _)) (by have := HLN.out; simp; omega) (by have := HLN.out; unfold maxLen; simp; omega) (Belw8.out.size) J2 HJJ.out.2 ?_
            intro q7 q7d w9 hown hg
            have Ow9 := Lib.hid hown
            have Gw9 := Lib.hid hg
            have Belw9 := Lib.hid (show Below W4.heap.size W4 w9 from Belw8.out.grown hg Belw8.out.size (fun k hk => (((Ow8.out)).lt k hk).1))
            clear hown hg
            refine hK.out _ _ ?_ ?_
            · exact .inr (HSX.out _ Belw9.out)
            clear hK K
            simp only [Act.put, List.getElem_toArray, List.getElem_cons_succ, List.getElem_cons_zero, List.setIfInBounds_toArray, List.set_cons_zero, List.set_cons_succ]
            have hX9 := (Belw9.out.block _ HXL.out.1).trans HX4.out.1
            have hY9 := (Belw9.out.block _ HXL.out.2).trans HX4.out.2.1
            have c0 := cell_of_row w9 _ 0 _ _ _ hX9
            have c1 := cell_of_row w9 _ 1 _ _ _ hX9
            have c2 := cell_of_row w9 _ 2 _ _ _ hX9
            have g0 := frozen_of_row w9 _ 0 _ _ hX9
            refine nextL (i := 16) (by kernel_rfl) rfl (by kernel_rfl) (fun K hK => ?_)
            go_simp
            refine hK.out _ _ ?_ ?_
            · exact .inr c0
            clear hK K
            refine nextL (i := 17) (by kernel_rfl) rfl (by kernel_rfl) (fun K hK => ?_)
            go_simp
            refine hK.out _ _ ?_ ?_
            · exact .inl (by kernel_rfl)
            clear hK K
            refine doneL (by kernel_rfl) ?_ _
            have y0 := cell_of_row w9 _ 0 _ _ _ hY9
            have y1 := cell_of_row w9 _ 1 _ _ _ hY9
            have y2 := cell_of_row w9 _ 2 _ _ _ hY9
            have z0 := frozen_of_row w9 _ 0 _ _ hY9
            have z1 := frozen_of_row w9 _ 1 _ _ hY9
            have z2 := frozen_of_row w9 _ 2 _ _ hY9
            have HE := Lib.hid (env_first (v := .slice q7 J2.length q7d) (E := ⟨J2, E.args, E.funs⟩) hX9 hY9 (Rd.of_own bE Ow9.out) (HR4.out.2.2.1.below Belw9.out (Nat.le_refl _)) (HR4.out.2.2.2.below Belw9.out (Nat.le_refl _)))
            have HQ := Lib.hid (env_set (k := w.heap.size + 1) ((HX4.out.2.2.trans (Belw9.out.mono (Nat.le_of_lt HXL.out.1))).setCell (p := ⟨w.heap.size, 0, none⟩) (Nat.le_refl _) (.slice q7 J2.length q7d)) (Nat.le_succ _) (.slice q7 J2.length q7d) (.slice p5 N5 c5) (.slice p6 N6 c6))
            clear hX9 hY9
            generalize J2.length = NJ at *
            go_wp2_with fail
            (try simp only [Exit.inBlock, Exit.then])
            refine bodyPost_ret (v := .agg #[.slice q7 NJ q7d, .slice p5 N5 c5, .slice p6 N6 c6]) ?_ rfl ⟨_, rfl, (by have h1 := HE.out.1; rw [HJ.out] at h1; exact h1), HQ.out⟩
            exact ret_env rfl HE.out.2 rfl
          · go_simp
            refine hK.out _ _ ?_ ?_
            · exact .inr (HSX.out _ (en_alloc Belw5.out _))
            clear hK K
            obtain ⟨w6, hw6⟩ : ∃ W, w5.alloc (.cells #[.string n, .string x] 44) = W := ⟨_, rfl⟩
            rw [hw6]
            have Yw6 := Lib.hid (show Blk w6 w5.heap.size (.cells #[.string n, .string x] 44) by rw [← hw6]; exact Blk.new rfl)
            have Belw6 := Lib.hid (show Below W4.heap.size W4 w6 by rw [← hw6]; exact (en_alloc Belw5.out _))
            have Ltw6 := Lib.hid (show w5.heap.size < w6.heap.size from Yw6.out.lt)
            have Zw6 := Lib.hid (show Blk w6 W4.heap.size (.cells #[] 44) by rw [← hw6]; exact Zw5.out.alloc _)
            refine nextL (i := 5) (by kernel_rfl) rfl (by kernel_rfl) (fun K hK => ?_)
            refine wp_append_rd w6 (.tmp 28) (.tmp 32) 22 rfl 44 i0 _ 32 Try.underlying22 HI.out.1 HI.out.2.1 HI.out.2.2.1 HI.out.2.2.2 rfl bE W4.heap.size (.slice (some ⟨W4.heap.size, 0, none⟩) 0 0) [] A rfl (Zw6.out.own0 (sz := 2) (Nat.le_refl _)) _ rfl (HR4.out.1.below Belw6.out (Nat.le_refl _)) (by have := HLN.out; simp; omega) (by have := HLN.out; unfold maxLen; simp; omega) (Belw6.out.size) A (by simp) ?_
            intro q5 q5d w7 hown hg
            have Ow7 := Lib.hid hown
            have Gw7 := Lib.hid hg
            have Belw7 := Lib.hid (show Below W4.heap.size W4 w7 from Belw6.out.grown hg Belw6.out.size (fun k hk => (((Zw6.out.own0 (sz := 2) (Nat.le_refl _))).lt k hk).1))
            clear hown hg
            refine hK.out _ _ ?_ ?_
            · exact .inr (HSX.out _ Belw7.out)
            clear hK K
            simp only [Act.put, List.getElem_toArray, List.getElem_cons_succ, List.getElem_cons_zero, List.setIfInBounds_toArray, List.set_cons_zero, List.set_cons_succ]
            have Yw7 := Lib.hid (Yw6.out.grown Gw7.out (by have := Ltw5.out; simp [Value.ownBlock]; omega))
            refine nextL (i := 10) (by kernel_rfl) rfl (by kernel_rfl) (fun K hK => ?_)
            refine wp_append_rd w7 (.tmp 33) (.tmp 37) 22 rfl 44 i0 _ 32 Try.underlying22 HI.out.1 HI.out.2.1 HI.out.2.2.1 HI.out.2.2.2 rfl bE W4.heap.size (.slice q5 A.length q5d) A [(n, x)] rfl Ow7.out _ rfl (Blk.one (enc := bC) (x := (n, x)) Yw7.out) (by have := HLN.out; simp; omega) (by have := HLN.out; unfold maxLen; simp; omega) (Belw7.out.size) J1 HJJ.out.1 ?_
            intro q6 q6d w8 hown hg
            have Ow8 := Lib.hid hown
            have Gw8 := Lib.hid hg
            have Belw8 := Lib.hid (show Below W4.heap.size W4 w8 from Belw7.out.grown hg Belw7.out.size (fun k hk => ((Ow7.out).lt k hk).1))
            clear hown hg
            refine hK.out _ _ ?_ ?_
            · exact .inr (HSX.out _ Belw8.out)
            clear hK K
            simp only [Act.put, List.getElem_toArray, List.getElem_cons_succ, List.getElem_cons_zero, List.setIfInBounds_toArray, List.set_cons_zero, List.set_cons_succ]
            refine nextL (i := 15) (by kernel_rfl) rfl (by kernel_rfl) (fun K hK => ?_)
            refine wp_append_rd w8 (.tmp 38) (.tmp 42) 22 rfl 44 i0 _ 32 Try.underlying22 HI.out.1 HI.out.2.1 HI.out.2.2.1 HI.out.2.2.2 rfl bE W4.heap.size (.slice q6 J1.length q6d) J1 C rfl (Ow8.out) _ rfl (HR4.out.2.1.below Belw8.out (Nat.le_refl _)) (by have := HLN.out; simp; omega) (by have := HLN.out; unfold maxLen; simp; omega) (Belw8.out.size) J2 HJJ.out.2 ?_
            intro q7 q7d w9 hown hg
            have Ow9 := Lib.hid hown
            have Gw9 := Lib.hid hg
            have Belw9 := Lib.hid (show Below W4.heap.size W4 w9 from Belw8.out.grown hg Belw8.out.size (fun k hk => (((Ow8.out)).lt k hk).1))
            clear hown hg
            refine hK.out _ _ ?_ ?_
            · exact .inr (HSX.out _ Belw9.out)
            clear hK K
            simp only [Act.put, List.getElem_toArray, List.getElem_cons_succ, List.getElem_cons_zero, List.setIfInBounds_toArray, List.set_cons_zero, List.set_cons_succ]
            have hX9 := (Belw9.out.block _ HXL.out.1).trans HX4.out.1
            have hY9 := (Belw9.out.block _ HXL.out.2).trans HX4.out.2.1
            have c0 := cell_of_row w9 _ 0 _ _ _ hX9
            have c1 := cell_of_row w9 _ 1 _ _ _ hX9
            have c2 := cell_of_row w9 _ 2 _ _ _ hX9
            have g0 := frozen_of_row w9 _ 0 _ _ hX9
            refine nextL (i := 16) (by kernel_rfl) rfl (by kernel_rfl) (fun K hK => ?_)
            go_simp
            refine hK.out _ _ ?_ ?_
            · exact .inr c0
            clear hK K
            refine nextL (i := 17) (by kernel_rfl) rfl (by kernel_rfl) (fun K hK => ?_)
            go_simp
            refine hK.out _ _ ?_ ?_
            · exact .inl (by kernel_rfl)
            clear hK K
            refine doneL (by kernel_rfl) ?_ _
            have y0 := cell_of_row w9 _ 0 _ _ _ hY9
            have y1 := cell_of_row w9 _ 1 _ _ _ hY9
            have y2 := cell_of_row w9 _ 2 _ _ _ hY9
            have z0 := frozen_of_row w9 _ 0 _ _ hY9
            have z1 := frozen_of_row w9 _ 1 _ _ hY9
            have z2 := frozen_of_row w9 _ 2 _ _ hY9
            have HE := Lib.hid (env_first (v := .slice q7 J2.length q7d) (E := ⟨J2, E.args, E.funs⟩) hX9 hY9 (Rd.of_own bE Ow9.out) (HR4.out.2.2.1.below Belw9.out (Nat.le_refl _)) (HR4.out.2.2.2.below Belw9.out (Nat.le_refl _)))
            have HQ := Lib.hid (env_set (k := w.heap.size + 1) ((HX4.out.2.2.trans (Belw9.out.mono (Nat.le_of_lt HXL.out.1))).setCell (p := ⟨w.heap.size, 0, none⟩) (Nat.le_refl _) (.slice q7 J2.length q7d)) (Nat.le_succ _) (.slice q7 J2.length q7d) (.slice p5 N5 c5) (.slice p6 N6 c6))
            clear hX9 hY9
            generalize J2.length = NJ at *
            go_wp2_with fail
            (try simp only [Exit.inBlock, Exit.then])
            refine bodyPost_ret (v := .agg #[.slice q7 NJ q7d, .slice p5 N5 c5, .slice p6 N6 c6]) ?_ rfl ⟨_, rfl, (by have h1 := HE.out.1; rw [HJ.out] at h1; exact h1), HQ.out⟩
            exact ret_env rfl HE.out.2 rfl
        · go_simp
          refine hK.out _ _ ?_ ?_
          · exact .inr (HSX.out _ (en_alloc (Below.refl _ _) _).drew)
          clear hK K
          obtain ⟨w5, hw5⟩ : ∃ W, (W4.alloc (.cells #[.string n, .string x] 44)).drew = W := ⟨_, rfl⟩
          rw [hw5]
          have Yw5 := Lib.hid (show Blk w5 W4.heap.size (.cells #[.string n, .string x] 44) by rw [← hw5]; exact Blk.new rfl)
          have Belw5 := Lib.hid (show Below W4.heap.size W4 w5 by rw [← hw5]; exact (en_alloc (Below.refl _ _) _).drew)
          have Ltw5 := Lib.hid (show W4.heap.size < w5.heap.size from Yw5.out.lt)
          refine nextL (i := 0) (by kernel_rfl) rfl (by kernel_rfl) (fun K hK => ?_)
          go_simp
          refine hK.out _ _ ?_ ?_
          · exact .inr (HSX.out _ (en_alloc Belw5.out _))
          clear hK K
          obtain ⟨w6, hw6⟩ : ∃ W, w5.alloc (.cells #[] 44) = W := ⟨_, rfl⟩
          rw [hw6]
          have Zw6 := Lib.hid (show Blk w6 w5.heap.size (.cells #[] 44) by rw [← hw6]; exact Blk.new rfl)
          have Belw6 := Lib.hid (show Below W4.heap.size W4 w6 by rw [← hw6]; exact (en_alloc Belw5.out _))
          have Ltw6 := Lib.hid (show w5.heap.size < w6.heap.size from Zw6.out.lt)
          have Yw6 := Lib.hid (show Blk w6 W4.heap.size (.cells #[.string n, .string x] 44) by rw [← hw6]; exact Yw5.out.alloc _)
          refine nextL (i := 5) (by kernel_rfl) rfl (by kernel_rfl) (fun K hK => ?_)
          refine wp_append_rd w6 (.tmp 28) (.tmp 32) 22 rfl 44 i0 _ 32 Try.underlying22 HI.out.1 HI.out.2.1 HI.out.2.2.1 HI.out.2.2.2 rfl bE W4.heap.size (.slice (some ⟨w5.heap.size, 0, none⟩) 0 0) [] A rfl (Zw6.out.own0 (sz := 2) (Nat.le_of_lt Ltw5.out)) _ rfl (HR4.out.1.below Belw6.out (Nat.le_refl _)) (by have := HLN.out; simp; omega) (by have := HLN.out; unfold maxLen; simp; omega) (Belw6.out.size) A (by simp) ?_
          intro q5 q5d w7 hown hg
          have Ow7 := Lib.hid hown
          have Gw7 := Lib.hid hg
          have Belw7 := Lib.hid (show Below W4.heap.size W4 w7 from Belw6.out.grown hg Belw6.out.size (fun k hk => (((Zw6.out.own0 (sz := 2) (Nat.le_of_lt Ltw5.out))).lt k hk).1))
          clear hown hg
          refine hK.out _ _ ?_ ?_
          · exact .inr (HSX.out _ Belw7.out)
          clear hK K
          simp only [Act.put, List.getElem_toArray, List.getElem_cons_succ, List.getElem_cons_zero, List.setIfInBounds_toArray, List.set_cons_zero, List.set_cons_succ]
          have Yw7 := Lib.hid (Yw6.out.grown Gw7.out (by have := Ltw5.out; simp [Value.ownBlock]; omega))
          refine nextL (i := 10) (by kernel_rfl) rfl (by kernel_rfl) (fun K hK => ?_)
          refine wp_append_rd w7 (.tmp 33) (.tmp 37) 22 rfl 44 i0 _ 32 Try.underlying22 HI.out.1 HI.out.2.1 HI.out.2.2.1 HI.out.2.2.2 rfl bE W4.heap.size (.slice q5 A.length q5d) A [(n, x)] rfl Ow7.out _ rfl (Blk.one (enc := bC) (x := (n, x)) Yw7.out) (by have := HLN.out; simp; omega) (by have := HLN.out; unfold maxLen; simp; omega) (Belw7.out.size) J1 HJJ.out.1 ?_
          intro q6 q6d w8 hown hg
          have Ow8 := Lib.hid hown
          have Gw8 := Lib.hid hg
          have Belw8 := Lib.hid (show Below W4.heap.size W4 w8 from Belw7.out.grown hg Belw7.out.size (fun k hk => ((Ow7.out).lt k hk).1))
          clear hown hg
          refine hK.out _ _ ?_ ?_
          · exact .inr (HSX.out _ Belw8.out)
          clear hK K
          simp only [Act.put, List.getElem_toArray, List.getElem_cons_succ, List.getElem_cons_zero, List.setIfInBounds_toArray, List.set_cons_zero, List.set_cons_succ]
          refine nextL (i := 15) (by kernel_rfl) rfl (by kernel_rfl) (fun K hK => ?_)
          refine wp_append_rd w8 (.tmp 38) (.tmp 42) 22 rfl 44 i0 _ 32 Try.underlying22 HI.out.1 HI.out.2.1 HI.out.2.2.1 HI.out.2.2.2 rfl bE W4.heap.size (.slice q6 J1.length q6d) J1 C rfl (Ow8.out) _ rfl (HR4.out.2.1.below Belw8.out (Nat.le_refl _)) (by have := HLN.out; simp; omega) (by have := HLN.out; unfold maxLen; simp; omega) (Belw8.out.size) J2 HJJ.out.2 ?_
          intro q7 q7d w9 hown hg
          have Ow9 := Lib.hid hown
          have Gw9 := Lib.hid hg
          have Belw9 := Lib.hid (show Below W4.heap.size W4 w9 from Belw8.out.grown hg Belw8.out.size (fun k hk => (((Ow8.out)).lt k hk).1))
          clear hown hg
          refine hK.out _ _ ?_ ?_
          · exact .inr (HSX.out _ Belw9.out)
          clear hK K
          simp only [Act.put, List.getElem_toArray, List.getElem_cons_succ, List.getElem_cons_zero, List.setIfInBounds_toArray, List.set_cons_zero, List.set_cons_succ]
          have hX9 := (Belw9.out.block _ HXL.out.1).trans HX4.out.1
          have hY9 := (Belw9.out.block _ HXL.out.2).trans HX4.out.2.1
          have c0 := cell_of_row w9 _ 0 _ _ _ hX9
          have c1 := cell_of_row w9 _ 1 _ _ _ hX9
          have c2 := cell_of_row w9 _ 2 _ _ _ hX9
          have g0 := frozen_of_row w9 _ 0 _ _ hX9
          refine nextL (i := 16) (by kernel_rfl) rfl (by kernel_rfl) (fun K hK => ?_)
          go_simp
          refine hK.out _ _ ?_ ?_
          · exact .inr c0
          clear hK K
          refine nextL (i := 17) (by kernel_rfl) rfl (by kernel_rfl) (fun K hK => ?_)
          go_simp
          refine hK.out _ _ ?_ ?_
          · exact .inl (by kernel_rfl)
          clear hK K
          refine doneL (by kernel_rfl) ?_ _
          have y0 := cell_of_row w9 _ 0 _ _ _ hY9
          have y1 := cell_of_row w9 _ 1 _ _ _ hY9
          have y2 := cell_of_row w9 _ 2 _ _ _ hY9
          have z0 := frozen_of_row w9 _ 0 _ _ hY9
          have z1 := frozen_of_row w9 _ 1 _ _ hY9
          have z2 := frozen_of_row w9 _ 2 _ _ hY9
          have HE := Lib.hid (env_first (v := .slice q7 J2.length q7d) (E := ⟨J2, E.args, E.funs⟩) hX9 hY9 (Rd.of_own bE Ow9.out) (HR4.out.2.2.1.below Belw9.out (Nat.le_refl _)) (HR4.out.2.2.2.below Belw9.out (Nat.le_refl _)))
          have HQ := Lib.hid (env_set (k := w.heap.size + 1) ((HX4.out.2.2.trans (Belw9.out.mono (Nat.le_of_lt HXL.out.1))).setCell (p := ⟨w.heap.size, 0, none⟩) (Nat.le_refl _) (.slice q7 J2.length q7d)) (Nat.le_succ _) (.slice q7 J2.length q7d) (.slice p5 N5 c5) (.slice p6 N6 c6))
          clear hX9 hY9
          generalize J2.length = NJ at *
          go_wp2_with fail
          (try simp only [Exit.inBlock, Exit.then])
          refine bodyPost_ret (v := .agg #[.slice q7 NJ q7d, .slice p5 N5 c5, .slice p6 N6 c6]) ?_ rfl ⟨_, rfl, (by have h1 := HE.out.1; rw [HJ.out] at h1; exact h1), HQ.out⟩
          exact ret_env rfl HE.out.2 rfl
end Go.Proofs.Ytbbopbbnhkcfdaa
