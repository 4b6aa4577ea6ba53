/-
  Proved: the contract of a parser's simple. Conditions: the reader lies in memory.
-/
import Derived.Test.YtakceggnadagmaaGreatDoorParsePart
namespace Go.Proofs.YtakceggnadagmaaGreatDoor
open Go Go.RowKit GlyphMath LexMath TreeMath ParseMath

/-- What a call answers that has stored a tree as its result. -/
theorem BxO.ret {w0 w w4 : World} {X Y : Nat} {cs : Array Value} {t : TypeId} {S : PS} (h : BxO w0 w w4 X Y cs t S) (hX : X < w.heap.size) (hX0 : w0.heap.size ≤ X) {c : List Value} {n : Tr} (hc : Cel 8 c) (ht : NewAt w0 w4 (w.heap.size + 1) fun W => TrC W c n) :
    TrEnd w0 w (w4.setRow w.heap.size c.toArray) (.returned (.agg c.toArray)) X (n, S) := by
  have hk := kept_row0 w4 w.heap.size c.toArray
  exact ⟨c, rfl, hc, (ht.kept hk (fun k h1 h2 => by omega)).base (by omega), h.pr.kept hk (by omega) (fun i hi => by omega), h.kept.trans hk fun i hi => .inr (by omega)⟩
theorem simpleL_redir {f : Nat} {n : Nd} {S : PS} (h : S.isRedir = true) : simpleL (f + 1) n S = simpleL f { n with redirs := n.redirs ++ [(redirM S).1] } (redirM S).2 := by rw [simpleL, if_pos h]
theorem simpleL_word {f : Nat} {n : Nd} {S : PS} (h : S.isRedir = false) (h2 : S.isWord = true) : simpleL (f + 1) n S = simpleL f (ParseMath.partM n S).1 (ParseMath.partM n S).2 := by rw [simpleL, if_neg (by rw [h]; decide), if_pos h2]
theorem simpleL_end {f : Nat} {n : Nd} {S : PS} (h : S.isRedir = false) (h2 : S.isWord = false) : simpleL (f + 1) n S = (n, S) := by rw [simpleL, if_neg (by rw [h]; decide), if_neg (by rw [h2]; decide)]
def n0 : Nd := { nd0 with op := [99, 109, 100] }
def V0 : Sv := ⟨none, 0, [], fun _ => False, none, 0, [], fun _ => False, none, 0, [], fun _ => False⟩
theorem SiO.first {w0 w w1 : World} {X : Nat} {S : PS} (hpr : Pr w0 w1 X S) (hz : w1.heap[w.heap.size]? = some ZN) (hk : Kept (fun k => k = X) w w1) :
    SiO w0 w (w1.alloc (.cells (siC V0 n0).toArray 44)) X w1.heap.size n0 V0 4002 S := by
  have hl := (Array.getElem?_eq_some_iff.1 hz).1
  have hfew := hpr.good.few
  have hap : ∀ k, (False ∨ (Value.slice none 0 0).ownBlock = some k) → (Value.slice none 0 0).ownBlock ≠ some k := fun k hk => hk.elim (fun h => h.elim) (fun e => by simp [Value.ownBlock] at e)
  exact { max := by decide, box := ⟨heap_alloc_new w1 _, hl, hpr.new (below_new _ _), kept_alloc2 hz _, hk.on (Kept.of_below (below_new _ _))⟩, node := ⟨rfl, rfl, rfl, rfl⟩,
          roww := RowG.nil _ _ _ _ _ _, rowa := RowG.nil _ _ _ _ _ _, rowr := RowG.nil _ _ _ _ _ _, apwa := hap, apwr := hap, apaw := hap, apar := hap, aprw := hap, apra := hap,
          feww := by show 0 + _ ≤ _; omega, fewa := by show 0 + _ ≤ _; omega, fewr := by show 0 + _ ≤ _; omega }

set_option maxHeartbeats 16000000 in
set_option maxRecDepth 10000 in
theorem psimple_any {w0 w : World} {X : Nat} {S : PS} (h : Pr w0 w X S) : Calls Tryz.prog 157 #[.pointer (some ⟨X, 0, none⟩)] w fun e w' => TrEnd w0 w w' e X (simpleM S) := by
  have HX := Lib.hid h.base
  have HIW := Lib.hid (pisWord_any (h.new (below_new w ZN)))
  have HP0 := Lib.hid (h.new (below_new w ZN))
  have HIR := Lib.hid (fun W (hW : Pr w0 W X S) => pisRedir_any hW)
  have HG := Lib.hid h.good
  obtain ⟨S1, hS1⟩ : ∃ S1, S.want (S.isWord || S.isRedir) = S1 := ⟨_, rfl⟩
  have HM := Lib.hid (show simpleM S = (.mk (simpleL S1.ts.length n0 S1).1 [], (simpleL S1.ts.length n0 S1).2) from by rw [← hS1]; rfl)
  obtain ⟨q, hq⟩ : ∃ q, simpleL S1.ts.length n0 S1 = q := ⟨_, rfl⟩
  rw [hq] at HM
  have HQ := Lib.hid hq
  have HS1 := Lib.hid hS1
  clear h hS1 hq
  -- the loop, from wherever it begins
  have key : ∀ w1, Pr w0 w1 X S1 → w1.heap[w.heap.size]? = some ZN → Kept (fun k => k = X) w w1 → SiO w0 w (w1.alloc (.cells (siC V0 n0).toArray 44)) X w1.heap.size n0 V0 4002 S1 := fun w1 h1 h2 h3 => SiO.first h1 h2 h3
  have HK := Lib.hid key
  clear key
  cases h1 : S.isWord with
  | true =>
    rw [h1] at HIW HS1
    have HE1 := Lib.hid (show S = S1 from by have := HS1.out; simpa [PS.want] using this)
    rw [HE1.out] at HP0 HG
    clear h1
    go_enter Tryz.func157, Tryz.ntmps157
    go_wp2_with (first
      | (go_at_call 189; refine HIW.out.mono ?_; rintro en w1 ⟨rfl, hb⟩; have HB1 := Lib.hid (And.intro hb (HP0.out.new hb)); have HZ1 := Lib.hid ((hb.block w.heap.size (by simp)).trans (heap_alloc_new w ZN)); clear hb))
    have hA0 := HK.out w1 HB1.out.2 HZ1.out ((Kept.of_below (below_new w ZN)).on (Kept.of_below HB1.out.1))
    obtain ⟨wa, hwa⟩ : ∃ wa, wa = w1.alloc (.cells (siC V0 n0).toArray 44) := ⟨_, rfl⟩
    rw [← hwa] at hA0
    obtain ⟨Y, hY⟩ : ∃ Y, w1.heap.size = Y := ⟨_, rfl⟩
    rw [show w1.alloc (.cells #[.string ⟨#[99, 109, 100]⟩, .string ⟨#[]⟩, .slice none 0 0, .slice none 0 0, .slice none 0 0, .slice none 0 0, .slice none 0 0] 44) = wa from hwa.symm, hY]
    rw [hY] at hA0
    have HA0 := Lib.hid hA0
    clear hA0 hwa hY
    go_loopw [] (fun wr => ∃ f n V S', SiO w0 w wr X Y n V 4002 S' ∧ simpleL f n S' = q ∧ S'.ts.length ≤ f) (fun wr => psLen wr X)
    case atStart => exact ⟨_, _, _, _, HA0.out, HQ.out, Nat.le_refl _⟩
    case round =>
      obtain ⟨f, n, V, S', hL, hm, hf⟩ := hrel
      have hpos := hL.box.pr.good.pos
      obtain ⟨f, rfl⟩ : ∃ g, f = g + 1 := ⟨f - 1, by omega⟩
      obtain ⟨pw, cw, cssw, Fw, pa, ca, cssa, Fa, pr, cr, cssr, Fr⟩ := V
      have HRD := Lib.hid (pisRedir_any hL.box.pr)
      have HS := Lib.hid (And.intro hL (And.intro hm hf))
      obtain ⟨nw, hnw⟩ : ∃ x, n.words.length = x := ⟨_, rfl⟩
      obtain ⟨na, hna⟩ : ∃ x, n.assigns.length = x := ⟨_, rfl⟩
      obtain ⟨nr, hnr⟩ : ∃ x, n.redirs.length = x := ⟨_, rfl⟩
      have HNN := Lib.hid (And.intro hnw (And.intro hna hnr))
      have HCS := Lib.hid (show ∀ V M (T : PS) W, SiO w0 w W X Y n ⟨pw, cw, cssw, Fw, pa, ca, cssa, Fa, pr, cr, cssr, Fr⟩ M T → V = 0 → W.heap[Y]? = some (.cells (ndC ⟨#[99, 109, 100]⟩ ⟨#[]⟩ (.slice pw nw cw) (.slice none 0 0) (.slice pa na ca) (.slice pr nr cr)).toArray 44 (0, 0)) from fun V M T W h _ => by have := h.box.box; unfold siC at this; rwa [hnw, hna, hnr] at this)
      clear hL hm hf hpos hnw hna hnr
      cases hi : S'.isRedir with
      | true =>
        rw [hi] at HRD
        have HI := Lib.hid hi
        clear hi
        obtain ⟨y, hy⟩ : ∃ y, (redirM S').1 = y := ⟨_, rfl⟩
        have HY := Lib.hid hy
        have HRE := Lib.hid (fun W (hW : Pr w0 W X S') => predir_any hW)
        rw [hy] at HRE
        obtain ⟨yl, hyl⟩ : ∃ x, y.2.length = x := ⟨_, rfl⟩
        obtain ⟨yt, hyt⟩ : ∃ x, T y.1 = x := ⟨_, rfl⟩
        have HYT := Lib.hid hyt
        rw [hyl, hyt] at HRE
        have HLT := Lib.hid (redir_lt HS.out.1.box.pr.good HI.out)
        clear hy hyl hyt
        go_wp2_with (go_at_call 158; refine HRD.out.mono ?_; rintro en w5 ⟨rfl, hb⟩; have HL5 := Lib.hid (HS.out.1.new HX.out.2 hb); clear hb)
        refine regionL (S := (fun W => W.cell? ⟨Y, 6, none⟩ = some (.slice pr nr cr))) (L := 7) (by kernel_rfl) ?_ (fun hHeld => ?_)
        · exact (by rw [cell_plain (HCS.out 0 _ _ _ (HL5.out.new HX.out.2 (below_drewA w5)) rfl)]; rfl)
        refine takeL (i := 0) (k := 20) (v := ?_) rfl (by kernel_rfl) (by kernel_rfl) (by kernel_rfl) (by kernel_rfl) (fun _ _ _ h => h) (by kernel_rfl) (by kernel_rfl) (by kernel_rfl) (by rfl) ?_ (by assumption) ?_
        rotate_left
        · intro w hSw; (try dsimp only at hSw); go_simp <;> (with_reducible rfl)
        simp only [List.setIfInBounds_toArray, List.set_cons_zero, List.set_cons_succ]
        refine takeL (i := 1) (k := 21) (v := ?_) rfl (by kernel_rfl) (by kernel_rfl) (by kernel_rfl) (by kernel_rfl) (fun _ _ _ h => h) (by kernel_rfl) (by kernel_rfl) (by kernel_rfl) (by rfl) ?_ (by assumption) ?_
        rotate_left
        · intro w hSw; (try dsimp only at hSw); go_simp <;> (with_reducible rfl)
        simp only [List.setIfInBounds_toArray, List.set_cons_zero, List.set_cons_succ]
        refine takeL (i := 2) (k := 22) (v := ?_) rfl (by kernel_rfl) (by kernel_rfl) (by kernel_rfl) (by kernel_rfl) (fun _ _ _ h => h) (by kernel_rfl) (by kernel_rfl) (by kernel_rfl) (by rfl) ?_ (by assumption) ?_
        rotate_left
        · intro w hSw; (try dsimp only at hSw); go_simp <;> (with_reducible rfl)
        simp only [List.setIfInBounds_toArray, List.set_cons_zero, List.set_cons_succ]
        refine nextL (i := 3) (by kernel_rfl) rfl (by kernel_rfl) (fun K hK => ?_)
        go_simp
        go_wp2_with (go_at_call 159; refine (HRE.out _ (HL5.out.new HX.out.2 (below_drewA w5)).box.pr).mono ?_; rintro en w6 ⟨p6, k6, rfl, hu, hs⟩; have HL6 := Lib.hid (And.intro hu ((HL5.out.new HX.out.2 (below_drewA w5)).step (M' := 4001) HX.out.2 hs (by decide) (by have := HLT.out; omega))); clear hs hu)
        refine hK.out _ _ ?_ ?_
        · exact .inr (by rw [cell_plain (HCS.out 0 _ _ _ HL6.out.2 rfl)]; rfl)
        clear hK K
        refine nextL (i := 4) (by kernel_rfl) rfl (by kernel_rfl) (fun K hK => ?_)
        refine wp_one elRedir (.tmp 23) rfl _ [.string yt, .slice p6 yl k6] rfl (pair_cel _ _ _ _) rfl ?_
        refine hK.out _ _ ?_ ?_
        · exact .inr (by rw [cell_plain (HCS.out 0 _ _ _ (HL6.out.2.new HX.out.2 (below_new w6 _)) rfl)]; rfl)
        clear hK K
        simp only [Act.put, List.getElem_toArray, List.getElem_cons_succ, List.getElem_cons_zero, List.setIfInBounds_toArray, List.set_cons_zero, List.set_cons_succ]
        refine nextL (i := 5) (by kernel_rfl) rfl (by kernel_rfl) (fun K hK => ?_)
        refine wp_push elRedir (.tmp 21) (.tmp 24) rfl HL6.out.2.rowr (pair_cel _ _ _ _) (y := y) (C := w6.heap.size) (NewAt.of0 fun W hW => ⟨_, by rw [← HYT.out]; rfl, HL6.out.1.stays hW⟩) HL6.out.2.box.lt (fun k hk => (HL6.out.2.rowr.lt k (.inr hk)).2) (by have := HL6.out.2.fewr; omega) (by rw [HNN.out.2.2]; rfl) rfl HL6.out.2.box.lt ?_
        intro p8 c8 F8 w8 hr8 hF8 hat8 hk8
        have HS8 := Lib.hid (And.intro hr8 (And.intro hF8 (And.intro hat8 hk8)))
        have HB8 := Lib.hid (HL6.out.2.box.turn HX.out.2 HX.out.1 hk8 (fun k hk => (HL6.out.2.rowr.lt k (.inr hk)).1))
        have HC8 := Lib.hid (show w8.cell? ⟨Y, 6, none⟩ = some (.slice pr nr cr) from by rw [cell_plain HB8.out.box, ← HNN.out.2.2]; rfl)
        clear hr8 hF8 hat8 hk8
        refine hK.out _ _ ?_ ?_
        · exact .inr HC8.out
        clear hK K
        simp only [Act.put, List.getElem_toArray, List.getElem_cons_succ, List.getElem_cons_zero, List.setIfInBounds_toArray, List.set_cons_zero, List.set_cons_succ]
        refine nextL (i := 6) (by kernel_rfl) rfl (by kernel_rfl) (fun K hK => ?_)
        go_simp
        refine hK.out _ _ ?_ ?_
        · exact .inr HC8.out
        clear hK K
        refine nextL (i := 7) (by kernel_rfl) rfl (by kernel_rfl) (fun K hK => ?_)
        have d3 := HC8.out
        have e3 : w8.frozen? ⟨Y, 6, none⟩ = false := frozen_plain HB8.out.box 6
        go_simp
        refine hK.out _ _ ?_ ?_
        · exact .inl (by kernel_rfl)
        clear hK K
        refine doneL (by kernel_rfl) ?_ _
        have HP := Lib.hid (HL6.out.2.pushr (by decide) HX.out.2 HX.out.1 (fun k hk => (HL6.out.2.roww.lt k (.inr hk)).2) (fun k hk => (HL6.out.2.rowa.lt k (.inr hk)).2) HS8.out.1 HS8.out.2.1 HS8.out.2.2.1 HS8.out.2.2.2)
        go_wp2_with fail
        go_roundw
        case rel => exact ⟨f, _, _, _, HP.out, by rw [← HY.out, ← simpleL_redir HI.out]; exact HS.out.2.1, by have := HS.out.2.2; have := HLT.out; omega⟩
        case measure => rw [HP.out.box.pr.len, HS.out.1.box.pr.len]; exact HLT.out
      | false =>
        rw [hi] at HRD
        have HI := Lib.hid hi
        clear hi
        have HWD := Lib.hid (fun W (hW : Pr w0 W X S') => pisWord_any hW)
        cases hj : S'.isWord with
        | true =>
          rw [hj] at HWD
          have HJ := Lib.hid hj
          clear hj
          go_wp2_with (first
            | (go_at_call 158; refine HRD.out.mono ?_; rintro en w5 ⟨rfl, hb⟩; have HL5 := Lib.hid (HS.out.1.new HX.out.2 hb); clear hb)
            | (go_at_call 189; refine (HWD.out _ HL5.out.box.pr).mono ?_; rintro en w6 ⟨rfl, hb⟩; have HL6 := Lib.hid (HL5.out.new HX.out.2 hb); clear hb)
            | (go_at_call 190; refine (ppart_any HX.out.2 HX.out.1 HL6.out HJ.out).mono ?_; rintro en w7 ⟨rfl, V', hp⟩; have HP := Lib.hid hp; clear hp))
          go_roundw
          case rel => exact ⟨f, _, _, _, HP.out, by rw [← simpleL_word HI.out HJ.out]; exact HS.out.2.1, by have := HS.out.2.2; have := part_lt HS.out.1.box.pr.good n HJ.out; omega⟩
          case measure => rw [HP.out.box.pr.len, HS.out.1.box.pr.len]; exact part_lt HS.out.1.box.pr.good n HJ.out
        | false =>
          rw [hj] at HWD
          have HE := Lib.hid (show simpleM S = (.mk n [], S') from by rw [HM.out, ← HS.out.2.1, simpleL_end HI.out hj])
          clear hj
          go_wp2_with (first
            | (go_at_call 158; refine HRD.out.mono ?_; rintro en w5 ⟨rfl, hb⟩; have HL5 := Lib.hid (HS.out.1.new HX.out.2 hb); clear hb)
            | (go_at_call 189; refine (HWD.out _ HL5.out.box.pr).mono ?_; rintro en w6 ⟨rfl, hb⟩; have HL6 := Lib.hid (HL5.out.new HX.out.2 hb); clear hb)
            | (refine wpList_load_row (by rfl) 44 (.tmp 3) (by rfl) Y (by rfl) 44 (ndC ⟨#[99, 109, 100]⟩ ⟨#[]⟩ (.slice pw nw cw) (.slice none 0 0) (.slice pa na ca) (.slice pr nr cr)).toArray (0, 0) _ (HCS.out 0 _ _ _ HL6.out rfl) Tryz.underlying44 rfl (by rw [nd_info]; rfl) ?_)
            | (refine wpList_build1 (by rfl) 56 0 (.tmp 15) (by rfl) (.agg (ndC ⟨#[99, 109, 100]⟩ ⟨#[]⟩ (.slice pw nw cw) (.slice none 0 0) (.slice pa na ca) (.slice pr nr cr)).toArray) (nkC ⟨#[99, 109, 100]⟩ ⟨#[]⟩ (.slice pw nw cw) (.slice none 0 0) (.slice pa na ca) (.slice pr nr cr) (.slice none 0 0)).toArray (by rfl) (built_n0 _ _ _ _ _ _ _ _ _ _ _ _ _ _) ?_)
            | (refine wpList_store_row (by rfl) 56 (.tmp 2) (.tmp 16) (by rfl) w.heap.size (nkC ⟨#[99, 109, 100]⟩ ⟨#[]⟩ (.slice pw nw cw) (.slice none 0 0) (.slice pa na ca) (.slice pr nr cr) (.slice none 0 0)).toArray (by rfl) (by rfl) 56 zeroN.toArray HL6.out.box.zero (by rw [node_info]; rfl) rfl (all_oneCell_toArray (nkC_cel _ _ _ _ _ _ _ _ _ _ _ _ _ _ _ _ _).2) ?_))
          (try simp only [Exit.inBlock, Exit.then])
          refine bodyPost_ret (ret_tree rfl (setRow_heap w6 w.heap.size zeroN.toArray _ 56 (0, 0) HL6.out.box.zero) (nkC_cel _ _ _ _ _ _ _ _ _ _ _ _ _ _ _ _ _) rfl) rfl ?_
          rw [HE.out]
          have ht := HL6.out.node_tree
          unfold siC at ht
          rw [HNN.out.1, HNN.out.2.1, HNN.out.2.2] at ht
          exact HL6.out.box.ret HX.out.2 HX.out.1 (nkC_cel _ _ _ _ _ _ _ _ _ _ _ _ _ _ _ _ _) ht
  | false =>
    rw [h1] at HIW HS1
    cases h2 : S.isRedir with
    | true =>
      rw [h2] at HIR HS1
      have HE1 := Lib.hid (show S = S1 from by have := HS1.out; simpa [PS.want] using this)
      clear h1 h2
      go_enter Tryz.func157, Tryz.ntmps157
      go_wp2_with (first
        | (go_at_call 189; refine HIW.out.mono ?_; rintro en w1 ⟨rfl, hb⟩; have HB1 := Lib.hid (And.intro hb (HP0.out.new hb)); have HZ1 := Lib.hid ((hb.block w.heap.size (by simp)).trans (heap_alloc_new w ZN)); clear hb)
        | (go_at_call 158; refine (HIR.out _ HB1.out.2).mono ?_; rintro en w2 ⟨rfl, hb⟩; have HB2 := Lib.hid (And.intro (HB1.out.1.trans (hb.mono HB1.out.1.size)) (HB1.out.2.new hb)); have HZ2 := Lib.hid ((hb.block w.heap.size (Array.getElem?_eq_some_iff.1 HZ1.out).1).trans HZ1.out); clear hb))
      have hA0 := HK.out w2 (HE1.out ▸ HB2.out.2) HZ2.out ((Kept.of_below (below_new w ZN)).on (Kept.of_below HB2.out.1))
      obtain ⟨wa, hwa⟩ : ∃ wa, wa = w2.alloc (.cells (siC V0 n0).toArray 44) := ⟨_, rfl⟩
      rw [← hwa] at hA0
      obtain ⟨Y, hY⟩ : ∃ Y, w2.heap.size = Y := ⟨_, rfl⟩
      rw [show w2.alloc (.cells #[.string ⟨#[99, 109, 100]⟩, .string ⟨#[]⟩, .slice none 0 0, .slice none 0 0, .slice none 0 0, .slice none 0 0, .slice none 0 0] 44) = wa from hwa.symm, hY]
      rw [hY] at hA0
      have HA0 := Lib.hid hA0
      clear hA0 hwa hY
      go_loopw [] (fun wr => ∃ f n V S', SiO w0 w wr X Y n V 4002 S' ∧ simpleL f n S' = q ∧ S'.ts.length ≤ f) (fun wr => psLen wr X)
      case atStart => exact ⟨_, _, _, _, HA0.out, HQ.out, Nat.le_refl _⟩
      case round =>
        obtain ⟨f, n, V, S', hL, hm, hf⟩ := hrel
        have hpos := hL.box.pr.good.pos
        obtain ⟨f, rfl⟩ : ∃ g, f = g + 1 := ⟨f - 1, by omega⟩
        obtain ⟨pw, cw, cssw, Fw, pa, ca, cssa, Fa, pr, cr, cssr, Fr⟩ := V
        have HRD := Lib.hid (pisRedir_any hL.box.pr)
        have HS := Lib.hid (And.intro hL (And.intro hm hf))
        obtain ⟨nw, hnw⟩ : ∃ x, n.words.length = x := ⟨_, rfl⟩
        obtain ⟨na, hna⟩ : ∃ x, n.assigns.length = x := ⟨_, rfl⟩
        obtain ⟨nr, hnr⟩ : ∃ x, n.redirs.length = x := ⟨_, rfl⟩
        have HNN := Lib.hid (And.intro hnw (And.intro hna hnr))
        have HCS := Lib.hid (show ∀ V M (T : PS) W, SiO w0 w W X Y n ⟨pw, cw, cssw, Fw, pa, ca, cssa, Fa, pr, cr, cssr, Fr⟩ M T → V = 0 → W.heap[Y]? = some (.cells (ndC ⟨#[99, 109, 100]⟩ ⟨#[]⟩ (.slice pw nw cw) (.slice none 0 0) (.slice pa na ca) (.slice pr nr cr)).toArray 44 (0, 0)) from fun V M T W h _ => by have := h.box.box; unfold siC at this; rwa [hnw, hna, hnr] at this)
        clear hL hm hf hpos hnw hna hnr
        cases hi : S'.isRedir with
        | true =>
          rw [hi] at HRD
          have HI := Lib.hid hi
          clear hi
          obtain ⟨y, hy⟩ : ∃ y, (redirM S').1 = y := ⟨_, rfl⟩
          have HY := Lib.hid hy
          have HRE := Lib.hid (fun W (hW : Pr w0 W X S') => predir_any hW)
          rw [hy] at HRE
          obtain ⟨yl, hyl⟩ : ∃ x, y.2.length = x := ⟨_, rfl⟩
          obtain ⟨yt, hyt⟩ : ∃ x, T y.1 = x := ⟨_, rfl⟩
          have HYT := Lib.hid hyt
          rw [hyl, hyt] at HRE
          have HLT := Lib.hid (redir_lt HS.out.1.box.pr.good HI.out)
          clear hy hyl hyt
          go_wp2_with (go_at_call 158; refine HRD.out.mono ?_; rintro en w5 ⟨rfl, hb⟩; have HL5 := Lib.hid (HS.out.1.new HX.out.2 hb); clear hb)
          refine regionL (S := (fun W => W.cell? ⟨Y, 6, none⟩ = some (.slice pr nr cr))) (L := 7) (by kernel_rfl) ?_ (fun hHeld => ?_)
          · exact (by rw [cell_plain (HCS.out 0 _ _ _ (HL5.out.new HX.out.2 (below_drewA w5)) rfl)]; rfl)
          refine takeL (i := 0) (k := 20) (v := ?_) rfl (by kernel_rfl) (by kernel_rfl) (by kernel_rfl) (by kernel_rfl) (fun _ _ _ h => h) (by kernel_rfl) (by kernel_rfl) (by kernel_rfl) (by rfl) ?_ (by assumption) ?_
          rotate_left
          · intro w hSw; (try dsimp only at hSw); go_simp <;> (with_reducible rfl)
          simp only [List.setIfInBounds_toArray, List.set_cons_zero, List.set_cons_succ]
          refine takeL (i := 1) (k := 21) (v := ?_) rfl (by kernel_rfl) (by kernel_rfl) (by kernel_rfl) (by kernel_rfl) (fun _ _ _ h => h) (by kernel_rfl) (by kernel_rfl) (by kernel_rfl) (by rfl) ?_ (by assumption) ?_
          rotate_left
          · intro w hSw; (try dsimp only at hSw); go_simp <;> (with_reducible rfl)
          simp only [List.setIfInBounds_toArray, List.set_cons_zero, List.set_cons_succ]
          refine takeL (i := 2) (k := 22) (v := ?_) rfl (by kernel_rfl) (by kernel_rfl) (by kernel_rfl) (by kernel_rfl) (fun _ _ _ h => h) (by kernel_rfl) (by kernel_rfl) (by kernel_rfl) (by rfl) ?_ (by assumption) ?_
          rotate_left
          · intro w hSw; (try dsimp only at hSw); go_simp <;> (with_reducible rfl)
          simp only [List.setIfInBounds_toArray, List.set_cons_zero, List.set_cons_succ]
          refine nextL (i := 3) (by kernel_rfl) rfl (by kernel_rfl) (fun K hK => ?_)
          go_simp
          go_wp2_with (go_at_call 159; refine (HRE.out _ (HL5.out.new HX.out.2 (below_drewA w5)).box.pr).mono ?_; rintro en w6 ⟨p6, k6, rfl, hu, hs⟩; have HL6 := Lib.hid (And.intro hu ((HL5.out.new HX.out.2 (below_drewA w5)).step (M' := 4001) HX.out.2 hs (by decide) (by have := HLT.out; omega))); clear hs hu)
          refine hK.out _ _ ?_ ?_
          · exact .inr (by rw [cell_plain (HCS.out 0 _ _ _ HL6.out.2 rfl)]; rfl)
          clear hK K
          refine nextL (i := 4) (by kernel_rfl) rfl (by kernel_rfl) (fun K hK => ?_)
          refine wp_one elRedir (.tmp 23) rfl _ [.string yt, .slice p6 yl k6] rfl (pair_cel _ _ _ _) rfl ?_
          refine hK.out _ _ ?_ ?_
          · exact .inr (by rw [cell_plain (HCS.out 0 _ _ _ (HL6.out.2.new HX.out.2 (below_new w6 _)) rfl)]; rfl)
          clear hK K
          simp only [Act.put, List.getElem_toArray, List.getElem_cons_succ, List.getElem_cons_zero, List.setIfInBounds_toArray, List.set_cons_zero, List.set_cons_succ]
          refine nextL (i := 5) (by kernel_rfl) rfl (by kernel_rfl) (fun K hK => ?_)
          refine wp_push elRedir (.tmp 21) (.tmp 24) rfl HL6.out.2.rowr (pair_cel _ _ _ _) (y := y) (C := w6.heap.size) (NewAt.of0 fun W hW => ⟨_, by rw [← HYT.out]; rfl, HL6.out.1.stays hW⟩) HL6.out.2.box.lt (fun k hk => (HL6.out.2.rowr.lt k (.inr hk)).2) (by have := HL6.out.2.fewr; omega) (by rw [HNN.out.2.2]; rfl) rfl HL6.out.2.box.lt ?_
          intro p8 c8 F8 w8 hr8 hF8 hat8 hk8
          have HS8 := Lib.hid (And.intro hr8 (And.intro hF8 (And.intro hat8 hk8)))
          have HB8 := Lib.hid (HL6.out.2.box.turn HX.out.2 HX.out.1 hk8 (fun k hk => (HL6.out.2.rowr.lt k (.inr hk)).1))
          have HC8 := Lib.hid (show w8.cell? ⟨Y, 6, none⟩ = some (.slice pr nr cr) from by rw [cell_plain HB8.out.box, ← HNN.out.2.2]; rfl)
          clear hr8 hF8 hat8 hk8
          refine hK.out _ _ ?_ ?_
          · exact .inr HC8.out
          clear hK K
          simp only [Act.put, List.getElem_toArray, List.getElem_cons_succ, List.getElem_cons_zero, List.setIfInBounds_toArray, List.set_cons_zero, List.set_cons_succ]
          refine nextL (i := 6) (by kernel_rfl) rfl (by kernel_rfl) (fun K hK => ?_)
          go_simp
          refine hK.out _ _ ?_ ?_
          · exact .inr HC8.out
          clear hK K
          refine nextL (i := 7) (by kernel_rfl) rfl (by kernel_rfl) (fun K hK => ?_)
          have d3 := HC8.out
          have e3 : w8.frozen? ⟨Y, 6, none⟩ = false := frozen_plain HB8.out.box 6
          go_simp
          refine hK.out _ _ ?_ ?_
          · exact .inl (by kernel_rfl)
          clear hK K
          refine doneL (by kernel_rfl) ?_ _
          have HP := Lib.hid (HL6.out.2.pushr (by decide) HX.out.2 HX.out.1 (fun k hk => (HL6.out.2.roww.lt k (.inr hk)).2) (fun k hk => (HL6.out.2.rowa.lt k (.inr hk)).2) HS8.out.1 HS8.out.2.1 HS8.out.2.2.1 HS8.out.2.2.2)
          go_wp2_with fail
          go_roundw
          case rel => exact ⟨f, _, _, _, HP.out, by rw [← HY.out, ← simpleL_redir HI.out]; exact HS.out.2.1, by have := HS.out.2.2; have := HLT.out; omega⟩
          case measure => rw [HP.out.box.pr.len, HS.out.1.box.pr.len]; exact HLT.out
        | false =>
          rw [hi] at HRD
          have HI := Lib.hid hi
          clear hi
          have HWD := Lib.hid (fun W (hW : Pr w0 W X S') => pisWord_any hW)
          cases hj : S'.isWord with
          | true =>
            rw [hj] at HWD
            have HJ := Lib.hid hj
            clear hj
            go_wp2_with (first
              | (go_at_call 158; refine HRD.out.mono ?_; rintro en w5 ⟨rfl, hb⟩; have HL5 := Lib.hid (HS.out.1.new HX.out.2 hb); clear hb)
              | (go_at_call 189; refine (HWD.out _ HL5.out.box.pr).mono ?_; rintro en w6 ⟨rfl, hb⟩; have HL6 := Lib.hid (HL5.out.new HX.out.2 hb); clear hb)
              | (go_at_call 190; refine (ppart_any HX.out.2 HX.out.1 HL6.out HJ.out).mono ?_; rintro en w7 ⟨rfl, V', hp⟩; have HP := Lib.hid hp; clear hp))
            go_roundw
            case rel => exact ⟨f, _, _, _, HP.out, by rw [← simpleL_word HI.out HJ.out]; exact HS.out.2.1, by have := HS.out.2.2; have := part_lt HS.out.1.box.pr.good n HJ.out; omega⟩
            case measure => rw [HP.out.box.pr.len, HS.out.1.box.pr.len]; exact part_lt HS.out.1.box.pr.good n HJ.out
          | false =>
            rw [hj] at HWD
            have HE := Lib.hid (show simpleM S = (.mk n [], S') from by rw [HM.out, ← HS.out.2.1, simpleL_end HI.out hj])
            clear hj
            go_wp2_with (first
              | (go_at_call 158; refine HRD.out.mono ?_; rintro en w5 ⟨rfl, hb⟩; have HL5 := Lib.hid (HS.out.1.new HX.out.2 hb); clear hb)
              | (go_at_call 189; refine (HWD.out _ HL5.out.box.pr).mono ?_; rintro en w6 ⟨rfl, hb⟩; have HL6 := Lib.hid (HL5.out.new HX.out.2 hb); clear hb)
              | (refine wpList_load_row (by rfl) 44 (.tmp 3) (by rfl) Y (by rfl) 44 (ndC ⟨#[99, 109, 100]⟩ ⟨#[]⟩ (.slice pw nw cw) (.slice none 0 0) (.slice pa na ca) (.slice pr nr cr)).toArray (0, 0) _ (HCS.out 0 _ _ _ HL6.out rfl) Tryz.underlying44 rfl (by rw [nd_info]; rfl) ?_)
              | (refine wpList_build1 (by rfl) 56 0 (.tmp 15) (by rfl) (.agg (ndC ⟨#[99, 109, 100]⟩ ⟨#[]⟩ (.slice pw nw cw) (.slice none 0 0) (.slice pa na ca) (.slice pr nr cr)).toArray) (nkC ⟨#[99, 109, 100]⟩ ⟨#[]⟩ (.slice pw nw cw) (.slice none 0 0) (.slice pa na ca) (.slice pr nr cr) (.slice none 0 0)).toArray (by rfl) (built_n0 _ _ _ _ _ _ _ _ _ _ _ _ _ _) ?_)
              | (refine wpList_store_row (by rfl) 56 (.tmp 2) (.tmp 16) (by rfl) w.heap.size (nkC ⟨#[99, 109, 100]⟩ ⟨#[]⟩ (.slice pw nw cw) (.slice none 0 0) (.slice pa na ca) (.slice pr nr cr) (.slice none 0 0)).toArray (by rfl) (by rfl) 56 zeroN.toArray HL6.out.box.zero (by rw [node_info]; rfl) rfl (all_oneCell_toArray (nkC_cel _ _ _ _ _ _ _ _ _ _ _ _ _ _ _ _ _).2) ?_))
            (try simp only [Exit.inBlock, Exit.then])
            refine bodyPost_ret (ret_tree rfl (setRow_heap w6 w.heap.size zeroN.toArray _ 56 (0, 0) HL6.out.box.zero) (nkC_cel _ _ _ _ _ _ _ _ _ _ _ _ _ _ _ _ _) rfl) rfl ?_
            rw [HE.out]
            have ht := HL6.out.node_tree
            unfold siC at ht
            rw [HNN.out.1, HNN.out.2.1, HNN.out.2.2] at ht
            exact HL6.out.box.ret HX.out.2 HX.out.1 (nkC_cel _ _ _ _ _ _ _ _ _ _ _ _ _ _ _ _ _) ht
    | false =>
      rw [h2] at HIR HS1
      have HE1 := Lib.hid (show S.fail 2 = S1 from by have := HS1.out; simpa [PS.want] using this)
      clear h1 h2
      go_enter Tryz.func157, Tryz.ntmps157
      go_wp2_with (first
        | (go_at_call 189; refine HIW.out.mono ?_; rintro en w1 ⟨rfl, hb⟩; have HB1 := Lib.hid (And.intro hb (HP0.out.new hb)); have HZ1 := Lib.hid ((hb.block w.heap.size (by simp)).trans (heap_alloc_new w ZN)); clear hb)
        | (go_at_call 158; refine (HIR.out _ HB1.out.2).mono ?_; rintro en w2 ⟨rfl, hb⟩; have HB2 := Lib.hid (And.intro (HB1.out.1.trans (hb.mono HB1.out.1.size)) (HB1.out.2.new hb)); have HZ2 := Lib.hid ((hb.block w.heap.size (Array.getElem?_eq_some_iff.1 HZ1.out).1).trans HZ1.out); clear hb)
        | (go_at_call 46; refine (pfail_any HB2.out.2 2 (by decide)).mono ?_; rintro en w3 ⟨rfl, hs⟩; have HS3 := Lib.hid (And.intro hs (hs.2.heap HZ2.out (by have := HX.out; omega))); clear hs))
      have hA0 := HK.out w3 (HE1.out ▸ HS3.out.1.1) HS3.out.2 (((Kept.of_below (below_new w ZN)).on (Kept.of_below HB2.out.1)).on HS3.out.1.2)
      obtain ⟨wa, hwa⟩ : ∃ wa, wa = w3.alloc (.cells (siC V0 n0).toArray 44) := ⟨_, rfl⟩
      rw [← hwa] at hA0
      obtain ⟨Y, hY⟩ : ∃ Y, w3.heap.size = Y := ⟨_, rfl⟩
      rw [show w3.alloc (.cells #[.string ⟨#[99, 109, 100]⟩, .string ⟨#[]⟩, .slice none 0 0, .slice none 0 0, .slice none 0 0, .slice none 0 0, .slice none 0 0] 44) = wa from hwa.symm, hY]
      rw [hY] at hA0
      have HA0 := Lib.hid hA0
      clear hA0 hwa hY
      go_loopw [] (fun wr => ∃ f n V S', SiO w0 w wr X Y n V 4002 S' ∧ simpleL f n S' = q ∧ S'.ts.length ≤ f) (fun wr => psLen wr X)
      case atStart => exact ⟨_, _, _, _, HA0.out, HQ.out, Nat.le_refl _⟩
      case round =>
        obtain ⟨f, n, V, S', hL, hm, hf⟩ := hrel
        have hpos := hL.box.pr.good.pos
        obtain ⟨f, rfl⟩ : ∃ g, f = g + 1 := ⟨f - 1, by omega⟩
        obtain ⟨pw, cw, cssw, Fw, pa, ca, cssa, Fa, pr, cr, cssr, Fr⟩ := V
        have HRD := Lib.hid (pisRedir_any hL.box.pr)
        have HS := Lib.hid (And.intro hL (And.intro hm hf))
        obtain ⟨nw, hnw⟩ : ∃ x, n.words.length = x := ⟨_, rfl⟩
        obtain ⟨na, hna⟩ : ∃ x, n.assigns.length = x := ⟨_, rfl⟩
        obtain ⟨nr, hnr⟩ : ∃ x, n.redirs.length = x := ⟨_, rfl⟩
        have HNN := Lib.hid (And.intro hnw (And.intro hna hnr))
        have HCS := Lib.hid (show ∀ V M (T : PS) W, SiO w0 w W X Y n ⟨pw, cw, cssw, Fw, pa, ca, cssa, Fa, pr, cr, cssr, Fr⟩ M T → V = 0 → W.heap[Y]? = some (.cells (ndC ⟨#[99, 109, 100]⟩ ⟨#[]⟩ (.slice pw nw cw) (.slice none 0 0) (.slice pa na ca) (.slice pr nr cr)).toArray 44 (0, 0)) from fun V M T W h _ => by have := h.box.box; unfold siC at this; rwa [hnw, hna, hnr] at this)
        clear hL hm hf hpos hnw hna hnr
        cases hi : S'.isRedir with
        | true =>
          rw [hi] at HRD
          have HI := Lib.hid hi
          clear hi
          obtain ⟨y, hy⟩ : ∃ y, (redirM S').1 = y := ⟨_, rfl⟩
          have HY := Lib.hid hy
          have HRE := Lib.hid (fun W (hW : Pr w0 W X S') => predir_any hW)
          rw [hy] at HRE
          obtain ⟨yl, hyl⟩ : ∃ x, y.2.length = x := ⟨_, rfl⟩
          obtain ⟨yt, hyt⟩ : ∃ x, T y.1 = x := ⟨_, rfl⟩
          have HYT := Lib.hid hyt
          rw [hyl, hyt] at HRE
          have HLT := Lib.hid (redir_lt HS.out.1.box.pr.good HI.out)
          clear hy hyl hyt
          go_wp2_with (go_at_call 158; refine HRD.out.mono ?_; rintro en w5 ⟨rfl, hb⟩; have HL5 := Lib.hid (HS.out.1.new HX.out.2 hb); clear hb)
          refine regionL (S := (fun W => W.cell? ⟨Y, 6, none⟩ = some (.slice pr nr cr))) (L := 7) (by kernel_rfl) ?_ (fun hHeld => ?_)
          · exact (by rw [cell_plain (HCS.out 0 _ _ _ (HL5.out.new HX.out.2 (below_drewA w5)) rfl)]; rfl)
          refine takeL (i := 0) (k := 20) (v := ?_) rfl (by kernel_rfl) (by kernel_rfl) (by kernel_rfl) (by kernel_rfl) (fun _ _ _ h => h) (by kernel_rfl) (by kernel_rfl) (by kernel_rfl) (by rfl) ?_ (by assumption) ?_
          rotate_left
          · intro w hSw; (try dsimp only at hSw); go_simp <;> (with_reducible rfl)
          simp only [List.setIfInBounds_toArray, List.set_cons_zero, List.set_cons_succ]
          refine takeL (i := 1) (k := 21) (v := ?_) rfl (by kernel_rfl) (by kernel_rfl) (by kernel_rfl) (by kernel_rfl) (fun _ _ _ h => h) (by kernel_rfl) (by kernel_rfl) (by kernel_rfl) (by rfl) ?_ (by assumption) ?_
          rotate_left
          · intro w hSw; (try dsimp only at hSw); go_simp <;> (with_reducible rfl)
          simp only [List.setIfInBounds_toArray, List.set_cons_zero, List.set_cons_succ]
          refine takeL (i := 2) (k := 22) (v := ?_) rfl (by kernel_rfl) (by kernel_rfl) (by kernel_rfl) (by kernel_rfl) (fun _ _ _ h => h) (by kernel_rfl) (by kernel_rfl) (by kernel_rfl) (by rfl) ?_ (by assumption) ?_
          rotate_left
          · intro w hSw; (try dsimp only at hSw); go_simp <;> (with_reducible rfl)
          simp only [List.setIfInBounds_toArray, List.set_cons_zero, List.set_cons_succ]
          refine nextL (i := 3) (by kernel_rfl) rfl (by kernel_rfl) (fun K hK => ?_)
          go_simp
          go_wp2_with (go_at_call 159; refine (HRE.out _ (HL5.out.new HX.out.2 (below_drewA w5)).box.pr).mono ?_; rintro en w6 ⟨p6, k6, rfl, hu, hs⟩; have HL6 := Lib.hid (And.intro hu ((HL5.out.new HX.out.2 (below_drewA w5)).step (M' := 4001) HX.out.2 hs (by decide) (by have := HLT.out; omega))); clear hs hu)
          refine hK.out _ _ ?_ ?_
          · exact .inr (by rw [cell_plain (HCS.out 0 _ _ _ HL6.out.2 rfl)]; rfl)
          clear hK K
          refine nextL (i := 4) (by kernel_rfl) rfl (by kernel_rfl) (fun K hK => ?_)
          refine wp_one elRedir (.tmp 23) rfl _ [.string yt, .slice p6 yl k6] rfl (pair_cel _ _ _ _) rfl ?_
          refine hK.out _ _ ?_ ?_
          · exact .inr (by rw [cell_plain (HCS.out 0 _ _ _ (HL6.out.2.new HX.out.2 (below_new w6 _)) rfl)]; rfl)
          clear hK K
          simp only [Act.put, List.getElem_toArray, List.getElem_cons_succ, List.getElem_cons_zero, List.setIfInBounds_toArray, List.set_cons_zero, List.set_cons_succ]
          refine nextL (i := 5) (by kernel_rfl) rfl (by kernel_rfl) (fun K hK => ?_)
          refine wp_push elRedir (.tmp 21) (.tmp 24) rfl HL6.out.2.rowr (pair_cel _ _ _ _) (y := y) (C := w6.heap.size) (NewAt.of0 fun W hW => ⟨_, by rw [← HYT.out]; rfl, HL6.out.1.stays hW⟩) HL6.out.2.box.lt (fun k hk => (HL6.out.2.rowr.lt k (.inr hk)).2) (by have := HL6.out.2.fewr; omega) (by rw [HNN.out.2.2]; rfl) rfl HL6.out.2.box.lt ?_
          intro p8 c8 F8 w8 hr8 hF8 hat8 hk8
          have HS8 := Lib.hid (And.intro hr8 (And.intro hF8 (And.intro hat8 hk8)))
          have HB8 := Lib.hid (HL6.out.2.box.turn HX.out.2 HX.out.1 hk8 (fun k hk => (HL6.out.2.rowr.lt k (.inr hk)).1))
          have HC8 := Lib.hid (show w8.cell? ⟨Y, 6, none⟩ = some (.slice pr nr cr) from by rw [cell_plain HB8.out.box, ← HNN.out.2.2]; rfl)
          clear hr8 hF8 hat8 hk8
          refine hK.out _ _ ?_ ?_
          · exact .inr HC8.out
          clear hK K
          simp only [Act.put, List.getElem_toArray, List.getElem_cons_succ, List.getElem_cons_zero, List.setIfInBounds_toArray, List.set_cons_zero, List.set_cons_succ]
          refine nextL (i := 6) (by kernel_rfl) rfl (by kernel_rfl) (fun K hK => ?_)
          go_simp
          refine hK.out _ _ ?_ ?_
          · exact .inr HC8.out
          clear hK K
          refine nextL (i := 7) (by kernel_rfl) rfl (by kernel_rfl) (fun K hK => ?_)
          have d3 := HC8.out
          have e3 : w8.frozen? ⟨Y, 6, none⟩ = false := frozen_plain HB8.out.box 6
          go_simp
          refine hK.out _ _ ?_ ?_
          · exact .inl (by kernel_rfl)
          clear hK K
          refine doneL (by kernel_rfl) ?_ _
          have HP := Lib.hid (HL6.out.2.pushr (by decide) HX.out.2 HX.out.1 (fun k hk => (HL6.out.2.roww.lt k (.inr hk)).2) (fun k hk => (HL6.out.2.rowa.lt k (.inr hk)).2) HS8.out.1 HS8.out.2.1 HS8.out.2.2.1 HS8.out.2.2.2)
          go_wp2_with fail
          go_roundw
          case rel => exact ⟨f, _, _, _, HP.out, by rw [← HY.out, ← simpleL_redir HI.out]; exact HS.out.2.1, by have := HS.out.2.2; have := HLT.out; omega⟩
          case measure => rw [HP.out.box.pr.len, HS.out.1.box.pr.len]; exact HLT.out
        | false =>
          rw [hi] at HRD
          have HI := Lib.hid hi
          clear hi
          have HWD := Lib.hid (fun W (hW : Pr w0 W X S') => pisWord_any hW)
          cases hj : S'.isWord with
          | true =>
            rw [hj] at HWD
            have HJ := Lib.hid hj
            clear hj
            go_wp2_with (first
              | (go_at_call 158; refine HRD.out.mono ?_; rintro en w5 ⟨rfl, hb⟩; have HL5 := Lib.hid (HS.out.1.new HX.out.2 hb); clear hb)
              | (go_at_call 189; refine (HWD.out _ HL5.out.box.pr).mono ?_; rintro en w6 ⟨rfl, hb⟩; have HL6 := Lib.hid (HL5.out.new HX.out.2 hb); clear hb)
              | (go_at_call 190; refine (ppart_any HX.out.2 HX.out.1 HL6.out HJ.out).mono ?_; rintro en w7 ⟨rfl, V', hp⟩; have HP := Lib.hid hp; clear hp))
            go_roundw
            case rel => exact ⟨f, _, _, _, HP.out, by rw [← simpleL_word HI.out HJ.out]; exact HS.out.2.1, by have := HS.out.2.2; have := part_lt HS.out.1.box.pr.good n HJ.out; omega⟩
            case measure => rw [HP.out.box.pr.len, HS.out.1.box.pr.len]; exact part_lt HS.out.1.box.pr.good n HJ.out
          | false =>
            rw [hj] at HWD
            have HE := Lib.hid (show simpleM S = (.mk n [], S') from by rw [HM.out, ← HS.out.2.1, simpleL_end HI.out hj])
            clear hj
            go_wp2_with (first
              | (go_at_call 158; refine HRD.out.mono ?_; rintro en w5 ⟨rfl, hb⟩; have HL5 := Lib.hid (HS.out.1.new HX.out.2 hb); clear hb)
              | (go_at_call 189; refine (HWD.out _ HL5.out.box.pr).mono ?_; rintro en w6 ⟨rfl, hb⟩; have HL6 := Lib.hid (HL5.out.new HX.out.2 hb); clear hb)
              | (refine wpList_load_row (by rfl) 44 (.tmp 3) (by rfl) Y (by rfl) 44 (ndC ⟨#[99, 109, 100]⟩ ⟨#[]⟩ (.slice pw nw cw) (.slice none 0 0) (.slice pa na ca) (.slice pr nr cr)).toArray (0, 0) _ (HCS.out 0 _ _ _ HL6.out rfl) Tryz.underlying44 rfl (by rw [nd_info]; rfl) ?_)
              | (refine wpList_build1 (by rfl) 56 0 (.tmp 15) (by rfl) (.agg (ndC ⟨#[99, 109, 100]⟩ ⟨#[]⟩ (.slice pw nw cw) (.slice none 0 0) (.slice pa na ca) (.slice pr nr cr)).toArray) (nkC ⟨#[99, 109, 100]⟩ ⟨#[]⟩ (.slice pw nw cw) (.slice none 0 0) (.slice pa na ca) (.slice pr nr cr) (.slice none 0 0)).toArray (by rfl) (built_n0 _ _ _ _ _ _ _ _ _ _ _ _ _ _) ?_)
              | (refine wpList_store_row (by rfl) 56 (.tmp 2) (.tmp 16) (by rfl) w.heap.size (nkC ⟨#[99, 109, 100]⟩ ⟨#[]⟩ (.slice pw nw cw) (.slice none 0 0) (.slice pa na ca) (.slice pr nr cr) (.slice none 0 0)).toArray (by rfl) (by rfl) 56 zeroN.toArray HL6.out.box.zero (by rw [node_info]; rfl) rfl (all_oneCell_toArray (nkC_cel _ _ _ _ _ _ _ _ _ _ _ _ _ _ _ _ _).2) ?_))
            (try simp only [Exit.inBlock, Exit.then])
            refine bodyPost_ret (ret_tree rfl (setRow_heap w6 w.heap.size zeroN.toArray _ 56 (0, 0) HL6.out.box.zero) (nkC_cel _ _ _ _ _ _ _ _ _ _ _ _ _ _ _ _ _) rfl) rfl ?_
            rw [HE.out]
            have ht := HL6.out.node_tree
            unfold siC at ht
            rw [HNN.out.1, HNN.out.2.1, HNN.out.2.2] at ht
            exact HL6.out.box.ret HX.out.2 HX.out.1 (nkC_cel _ _ _ _ _ _ _ _ _ _ _ _ _ _ _ _ _) ht
end Go.Proofs.YtakceggnadagmaaGreatDoor
