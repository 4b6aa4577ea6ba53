/-
  Proved: the contract of a parser's part. Conditions: the reader and the command lie in memory.
-/
import Derived.Test.YtakceggnadagmaaGreatDoorParseSimple0
namespace Go.Proofs.YtakceggnadagmaaGreatDoor
open Go Go.RowKit GlyphMath LexMath TreeMath ParseMath

theorem pair_cel (s : ByteArray) (p : Option Addr) (n c : Nat) : Cel 2 [.string s, .slice p n c] := ⟨rfl, fun v hv => by
  simp only [List.mem_cons, List.not_mem_nil, or_false] at hv
  rcases hv with rfl | rfl <;> rfl⟩
theorem part_some {n : Nd} {S : PS} {a : List UInt8 × List Pt} (h1 : n.words = []) (h2 : assignO S.hd.word = some a) : ParseMath.partM n S = ({ n with assigns := n.assigns ++ [a] }, S.take) := by simp [ParseMath.partM, h1, h2]
theorem part_bad {n : Nd} {S : PS} (h1 : n.words = []) (h2 : assignO S.hd.word = none) (h3 : n.assigns = []) (h4 : reservedT S.tx = true) : ParseMath.partM n S = (n, S.fail 2) := by simp [ParseMath.partM, h1, h2, h3, h4]
theorem part_more {n : Nd} {S : PS} (h1 : n.words ≠ []) : ParseMath.partM n S = ({ n with words := n.words ++ [S.word.1] }, S.word.2) := by simp [ParseMath.partM, pushWord, h1]
theorem part_first {n : Nd} {S : PS} (h1 : n.words = []) (h2 : assignO S.hd.word = none) (h3 : n.assigns ≠ [] ∨ reservedT S.tx = false) : ParseMath.partM n S = ({ n with words := n.words ++ [S.word.1] }, S.word.2) := by
  rcases h3 with h3 | h3 <;> simp [ParseMath.partM, pushWord, h1, h2, h3]

set_option maxHeartbeats 16000000 in
set_option maxRecDepth 10000 in
theorem ppart_any {w0 w wr : World} {X Y : Nat} {n : Nd} {V : Sv} {S : PS} (hX : X < w.heap.size) (hX0 : w0.heap.size ≤ X) (h : SiO w0 w wr X Y n V 4002 S) (hw : S.isWord = true) :
    Calls Tryz.prog 190 #[.pointer (some ⟨X, 0, none⟩), .pointer (some ⟨Y, 0, none⟩)] wr fun e w' => e = .returned (.tuple #[]) ∧ ∃ V', SiO w0 w w' X Y (ParseMath.partM n S).1 V' 4002 (ParseMath.partM n S).2 := by
  obtain ⟨pw, cw, cssw, Fw, pa, ca, cssa, Fa, pr, cr, cssr, Fr⟩ := V
  have HX := Lib.hid (And.intro hX0 hX)
  have HL := Lib.hid h
  have HFW := Lib.hid (word_lt h.box.pr.good hw)
  have HFT := Lib.hid (take_lt h.box.pr.good (isWord_ne hw))
  have HMID := Lib.hid (show wordT S.hd.word = true ∧ Small S.hd.word ∧ S.hd.word.length ≤ 4000 from by
    have hk : S.hd.kind = 1 := by simpa [PS.isWord] using hw
    rcases h.box.pr.good.hd with ⟨h1, -⟩ | ⟨h1, -⟩
    · rw [h1.kind] at hk; cases hk
    · rcases h1.is with h2 | h2
      · exact ⟨h2.2.2.1, h2.2.2.2.1, h2.2.2.2.2⟩
      · rw [h2.1] at hk; cases hk)
  have HNX := Lib.hid (fun W (hW : Pr w0 W X S) => pnext2_any hW)
  have HNXT := Lib.hid (fun W (hW : Pr w0 W X S) => pnext_any hW)
  have HWD := Lib.hid (fun W (hW : Pr w0 W X S) => pword_any hW)
  obtain ⟨y, hy⟩ : ∃ y, S.word.1 = y := ⟨_, rfl⟩
  have HY := Lib.hid hy
  rw [hy] at HWD
  obtain ⟨yl, hyl⟩ : ∃ x, y.length = x := ⟨_, rfl⟩
  rw [hyl] at HWD
  obtain ⟨nw, hnw⟩ : ∃ x, n.words.length = x := ⟨_, rfl⟩
  have HNW := Lib.hid hnw
  obtain ⟨na, hna⟩ : ∃ x, n.assigns.length = x := ⟨_, rfl⟩
  have HNA := Lib.hid hna
  have c3 : wr.cell? ⟨Y, 3, none⟩ = some (.slice pw nw cw) := by rw [cell_plain h.box.box, ← hnw]; rfl
  clear hX hX0 h hw hy hyl hna
  by_cases h1 : n.words = []
  case neg =>
    have HM := Lib.hid (part_more (S := S) h1)
    have hn1 : ¬ nw = 0 := fun e => h1 (List.length_eq_zero_iff.1 (hnw.trans e))
    have hn0 : ((nw : Int) == 0) = false := by
      have : ¬ (nw : Int) = 0 := by omega
      simpa using this
    clear h1 hnw hn1
    go_enter Tryz.func190, Tryz.ntmps190
    go_wp2_with fail
    refine regionL (S := (fun W => W.cell? ⟨Y, 3, none⟩ = some (.slice pw nw cw))) (L := 11) (by kernel_rfl) ?_ (fun hHeld => ?_)
    · exact (by rw [cell_plain (HL.out.new HX.out.2 (below_drewA wr)).box.box, ← HNW.out]; rfl)
    refine takeL (i := 0) (k := 46) (v := ?_) rfl (by kernel_rfl) (by kernel_rfl) (by kernel_rfl) (by kernel_rfl) (fun _ _ _ h => h) (by kernel_rfl) (by kernel_rfl) (by kernel_rfl) (by rfl) ?_ (by assumption) ?_
    rotate_left
    · intro w hSw; (try dsimp only at hSw); go_simp <;> (with_reducible rfl)
    simp only [List.setIfInBounds_toArray, List.set_cons_zero, List.set_cons_succ]
    refine takeL (i := 1) (k := 47) (v := ?_) rfl (by kernel_rfl) (by kernel_rfl) (by kernel_rfl) (by kernel_rfl) (fun _ _ _ h => h) (by kernel_rfl) (by kernel_rfl) (by kernel_rfl) (by rfl) ?_ (by assumption) ?_
    rotate_left
    · intro w hSw; (try dsimp only at hSw); go_simp <;> (with_reducible rfl)
    simp only [List.setIfInBounds_toArray, List.set_cons_zero, List.set_cons_succ]
    refine takeL (i := 2) (k := 48) (v := ?_) rfl (by kernel_rfl) (by kernel_rfl) (by kernel_rfl) (by kernel_rfl) (fun _ _ _ h => h) (by kernel_rfl) (by kernel_rfl) (by kernel_rfl) (by rfl) ?_ (by assumption) ?_
    rotate_left
    · intro w hSw; (try dsimp only at hSw); go_simp <;> (with_reducible rfl)
    simp only [List.setIfInBounds_toArray, List.set_cons_zero, List.set_cons_succ]
    refine takeL (i := 3) (k := 49) (v := ?_) rfl (by kernel_rfl) (by kernel_rfl) (by kernel_rfl) (by kernel_rfl) (fun _ _ _ h => h) (by kernel_rfl) (by kernel_rfl) (by kernel_rfl) (by rfl) ?_ (by assumption) ?_
    rotate_left
    · intro w hSw; (try dsimp only at hSw); go_simp <;> (with_reducible rfl)
    simp only [List.setIfInBounds_toArray, List.set_cons_zero, List.set_cons_succ]
    refine takeL (i := 4) (k := 50) (v := ?_) rfl (by kernel_rfl) (by kernel_rfl) (by kernel_rfl) (by kernel_rfl) (fun _ _ _ h => h) (by kernel_rfl) (by kernel_rfl) (by kernel_rfl) (by rfl) ?_ (by assumption) ?_
    rotate_left
    · intro w hSw; (try dsimp only at hSw); go_simp <;> (with_reducible rfl)
    simp only [List.setIfInBounds_toArray, List.set_cons_zero, List.set_cons_succ]
    refine takeL (i := 5) (k := 51) (v := ?_) rfl (by kernel_rfl) (by kernel_rfl) (by kernel_rfl) (by kernel_rfl) (fun _ _ _ h => h) (by kernel_rfl) (by kernel_rfl) (by kernel_rfl) (by rfl) ?_ (by assumption) ?_
    rotate_left
    · intro w hSw; (try dsimp only at hSw); go_simp <;> (with_reducible rfl)
    simp only [List.setIfInBounds_toArray, List.set_cons_zero, List.set_cons_succ]
    refine nextL (i := 6) (by kernel_rfl) rfl (by kernel_rfl) (fun K hK => ?_)
    go_simp
    go_wp2_with (go_at_call 191; refine (HWD.out _ (HL.out.new HX.out.2 (below_drewA wr)).box.pr).mono ?_; rintro en w20 ⟨p5, k5, rfl, hu, hs⟩; have HS5 := Lib.hid (And.intro hu ((HL.out.new HX.out.2 (below_drewA wr)).step (M' := 4001) HX.out.2 hs (by decide) (by have := HFW.out; omega))); clear hs hu)
    refine hK.out _ _ ?_ ?_
    · exact .inr (by rw [cell_plain HS5.out.2.box.box, ← HNW.out]; rfl)
    clear hK K
    refine nextL (i := 7) (by kernel_rfl) rfl (by kernel_rfl) (fun K hK => ?_)
    refine wp_one elWord (.tmp 52) rfl _ [.slice p5 yl k5] rfl (slice_cel _ _ _) rfl ?_
    refine hK.out _ _ ?_ ?_
    · exact .inr (by rw [cell_plain (HS5.out.2.new HX.out.2 (below_new w20 _)).box.box, ← HNW.out]; rfl)
    clear hK K
    simp only [Act.put, List.getElem_toArray, List.getElem_cons_succ, List.getElem_cons_zero, List.setIfInBounds_toArray, List.set_cons_zero, List.set_cons_succ]
    refine nextL (i := 8) (by kernel_rfl) rfl (by kernel_rfl) (fun K hK => ?_)
    refine wp_push elWord (.tmp 50) (.tmp 53) rfl HS5.out.2.roww (slice_cel _ _ _) (word_new (C := wr.heap.size) HS5.out.1) HL.out.box.lt (fun k hk => (HL.out.roww.lt k (.inr hk)).2) (by have := HS5.out.2.feww; omega) (by rw [HNW.out]; rfl) rfl HS5.out.2.box.lt ?_
    intro p6 c6 F6 w21 hr6 hF6 hat6 hk6
    have HS6 := Lib.hid (And.intro hr6 (And.intro hF6 (And.intro hat6 hk6)))
    have HB6 := Lib.hid (HS5.out.2.box.turn HX.out.2 HX.out.1 hk6 (fun k hk => (HS5.out.2.roww.lt k (.inr hk)).1))
    clear hr6 hF6 hat6 hk6
    refine hK.out _ _ ?_ ?_
    · exact .inr (by rw [cell_plain HB6.out.box, ← HNW.out]; rfl)
    clear hK K
    simp only [Act.put, List.getElem_toArray, List.getElem_cons_succ, List.getElem_cons_zero, List.setIfInBounds_toArray, List.set_cons_zero, List.set_cons_succ]
    refine nextL (i := 9) (by kernel_rfl) rfl (by kernel_rfl) (fun K hK => ?_)
    go_simp
    refine hK.out _ _ ?_ ?_
    · exact .inr (by rw [cell_plain HB6.out.box, ← HNW.out]; rfl)
    clear hK K
    refine nextL (i := 10) (by kernel_rfl) rfl (by kernel_rfl) (fun K hK => ?_)
    go_simp
    refine hK.out _ _ ?_ ?_
    · exact .inr (by rw [cell_plain HB6.out.box, ← HNW.out]; rfl)
    clear hK K
    refine nextL (i := 11) (by kernel_rfl) rfl (by kernel_rfl) (fun K hK => ?_)
    have d3 : w21.cell? ⟨Y, 3, none⟩ = some (.slice pw nw cw) := (by rw [cell_plain HB6.out.box, ← HNW.out]; rfl)
    have e3 : w21.frozen? ⟨Y, 3, none⟩ = false := frozen_plain HB6.out.box 3
    go_simp
    refine hK.out _ _ ?_ ?_
    · exact .inl (by kernel_rfl)
    clear hK K
    refine doneL (by kernel_rfl) ?_ _
    have HP := Lib.hid (HS5.out.2.pushw (by decide) HX.out.2 HX.out.1 (fun k hk => (HL.out.rowa.lt k (.inr hk)).2) (fun k hk => (HL.out.rowr.lt k (.inr hk)).2) HS6.out.1 HS6.out.2.1 HS6.out.2.2.1 HS6.out.2.2.2)
    go_wp2_with fail
    go_end0
    refine ⟨rfl, ?_⟩
    rw [HM.out, HY.out]
    exact ⟨_, HP.out⟩
  case pos =>
    have H1 := Lib.hid h1
    obtain rfl : nw = 0 := by rw [← hnw, h1]; rfl
    clear hnw
    obtain ⟨ps, hps⟩ : ∃ ps, S.hd.word = ps := ⟨_, rfl⟩
    have HPS := Lib.hid hps
    rw [hps] at HMID
    have HASG := Lib.hid (fun W (hb : Below w0.heap.size w0 W) p k (hu : PsAt w0 (.slice p ps.length k) ps) (hk : ps.length ≤ k) => passign_any hb ps p k hu hk (fun e => by have := HMID.out.1; rw [e] at this; cases this) HMID.out.2.1 (by have := HMID.out.2.2; omega))
    have HTXT := Lib.hid (fun W (hW : Below w0.heap.size w0 W) p k (hu : PsAt w0 (.slice p S.hd.word.length k) S.hd.word) => text_any hW S.hd p k hu)
    unfold tkV at HNX
    obtain ⟨kd, hkd⟩ : ∃ x, S.hd.kind = x := ⟨_, rfl⟩
    obtain ⟨tx, htx⟩ : ∃ x, T S.hd.text = x := ⟨_, rfl⟩
    obtain ⟨wl, hwl⟩ : ∃ x, ps.length = x := ⟨_, rfl⟩
    obtain ⟨at_, hat⟩ : ∃ x : Int, (S.hd.at_ : Int) = x := ⟨_, rfl⟩
    simp only [hps, hkd, htx, hwl, hat] at HNX HASG
    clear hps hkd htx hwl hat h1
    cases hA : assignO ps with
    | some a =>
      rw [hA] at HASG
      have HM := Lib.hid (part_some H1.out (by rw [HPS.out]; exact hA))
      clear hA
      obtain ⟨ta, hta⟩ : ∃ x, T a.1 = x := ⟨_, rfl⟩
      have HTA := Lib.hid hta
      clear hta
      go_enter Tryz.func190, Tryz.ntmps190
      go_wp2_with (first
        | (go_at_call 45; refine (HNX.out _ HL.out.box.pr).mono ?_; rintro en w1 ⟨p, k, rfl, hu, hb1⟩; have qf := tok_f2 kd at_ tx p wl k; have HL1 := Lib.hid (HL.out.new HX.out.2 hb1); have HU1 := Lib.hid hu; clear hb1 hu)
        | (go_at_call 197; refine (HASG.out w1 HL1.out.box.pr.below p k HU1.out.1 HU1.out.2).mono ?_; rintro en w3 ⟨hb3, pz, nz, cz, rfl, hnew⟩; have HL3 := Lib.hid (HL1.out.new HX.out.2 hb3); have HN3 := Lib.hid (And.intro hnew hb3.size); clear hb3 hnew; rw [HTA.out]))
      obtain ⟨w4, hw4⟩ : ∃ w4, w4 = w3.alloc (.cells #[.string ta, .slice pz nz cz] 105) := ⟨_, rfl⟩
      rw [← hw4]
      have HL4 := Lib.hid (show SiO w0 w w4 X Y n ⟨pw, cw, cssw, Fw, pa, ca, cssa, Fa, pr, cr, cssr, Fr⟩ 4002 S from by rw [hw4]; exact HL3.out.new HX.out.2 (below_new _ _))
      have HZ4 := Lib.hid (show w4.heap[w3.heap.size]? = some (.cells #[.string ta, .slice pz nz cz] 105 (0, 0)) ∧ w4.heap.size = w3.heap.size + 1 ∧ NewAt w0 w4 w1.heap.size (fun W => PsAt W (.slice pz nz cz) a.2) from by rw [hw4]; exact ⟨heap_alloc_new w3 _, by simp, HN3.out.1.kept (D := fun _ => False) (Kept.of_below (below_new w3 _)) (fun _ _ _ h => h)⟩)
      clear hw4
      refine regionL (S := (fun W => W.cell? ⟨Y, 5, none⟩ = some (.slice pa na ca) ∧ W.heap[w3.heap.size]? = some (.cells #[.string ta, .slice pz nz cz] 105 (0, 0)))) (L := 10) (by kernel_rfl) ?_ (fun hHeld => ?_)
      · exact ⟨by rw [cell_plain (HL4.out.new HX.out.2 (below_drewA w4)).box.box, ← HNA.out]; rfl, HZ4.out.1⟩
      refine takeL (i := 0) (k := 20) (v := ?_) rfl (by kernel_rfl) (by kernel_rfl) (by kernel_rfl) (by kernel_rfl) (fun _ _ _ h => h) (by kernel_rfl) (by kernel_rfl) (by kernel_rfl) (by rfl) ?_ (by assumption) ?_
      rotate_left
      · intro w hSw; (try dsimp only at hSw); go_simp <;> (with_reducible rfl)
      simp only [List.setIfInBounds_toArray, List.set_cons_zero, List.set_cons_succ]
      refine takeL (i := 1) (k := 21) (v := ?_) rfl (by kernel_rfl) (by kernel_rfl) (by kernel_rfl) (by kernel_rfl) (fun _ _ _ h => h) (by kernel_rfl) (by kernel_rfl) (by kernel_rfl) (by rfl) ?_ (by assumption) ?_
      rotate_left
      · intro w hSw; (try dsimp only at hSw); go_simp <;> (with_reducible rfl)
      simp only [List.setIfInBounds_toArray, List.set_cons_zero, List.set_cons_succ]
      refine takeL (i := 2) (k := 22) (v := ?_) rfl (by kernel_rfl) (by kernel_rfl) (by kernel_rfl) (by kernel_rfl) (fun _ _ _ h => h) (by kernel_rfl) (by kernel_rfl) (by kernel_rfl) (by rfl) ?_ (by assumption) ?_
      rotate_left
      · intro w hSw; (try dsimp only at hSw); go_simp <;> (with_reducible rfl)
      simp only [List.setIfInBounds_toArray, List.set_cons_zero, List.set_cons_succ]
      refine takeL (i := 3) (k := 23) (v := ?_) rfl (by kernel_rfl) (by kernel_rfl) (by kernel_rfl) (by kernel_rfl) (fun _ _ _ h => h) (by kernel_rfl) (by kernel_rfl) (by kernel_rfl) (by rfl) ?_ (by assumption) ?_
      rotate_left
      · intro w hSw; (try dsimp only at hSw); go_simp <;> (with_reducible rfl)
      simp only [List.setIfInBounds_toArray, List.set_cons_zero, List.set_cons_succ]
      refine takeL (i := 4) (k := 24) (v := ?_) rfl (by kernel_rfl) (by kernel_rfl) (by kernel_rfl) (by kernel_rfl) (fun _ _ _ h => h) (by kernel_rfl) (by kernel_rfl) (by kernel_rfl) (by rfl) ?_ (by assumption) ?_
      rotate_left
      · intro w hSw; (try dsimp only at hSw); go_simp <;> (with_reducible rfl)
      simp only [List.setIfInBounds_toArray, List.set_cons_zero, List.set_cons_succ]
      refine takeL (i := 5) (k := 25) (v := .agg #[.string ta, .slice pz nz cz]) rfl (by kernel_rfl) (by kernel_rfl) (by kernel_rfl) (by kernel_rfl) (fun _ _ _ h => h) (by kernel_rfl) (by kernel_rfl) (by kernel_rfl) (by rfl) ?_ (by assumption) ?_
      · intro w hSw; exact exec_load_row _ 105 (.tmp 4) rfl w3.heap.size rfl 105 #[.string ta, .slice pz nz cz] (0, 0) _ hSw.2 Tryz.underlying105 rfl assign_info
      simp only [List.setIfInBounds_toArray, List.set_cons_zero, List.set_cons_succ]
      refine nextL (i := 6) (by kernel_rfl) rfl (by kernel_rfl) (fun K hK => ?_)
      refine wp_one elAssign (.tmp 25) rfl _ [.string ta, .slice pz nz cz] rfl (pair_cel _ _ _ _) rfl ?_
      refine hK.out _ _ ?_ ?_
      · exact .inr ⟨by rw [cell_plain ((HL4.out.new HX.out.2 (below_drewA w4)).new HX.out.2 (below_new w4.drew _)).box.box, ← HNA.out]; rfl, (Below.heap_alloc w4.drew _ _ (Array.getElem?_eq_some_iff.1 HZ4.out.1).1).trans HZ4.out.1⟩
      clear hK K
      simp only [Act.put, List.getElem_toArray, List.getElem_cons_succ, List.getElem_cons_zero, List.setIfInBounds_toArray, List.set_cons_zero, List.set_cons_succ]
      refine nextL (i := 7) (by kernel_rfl) rfl (by kernel_rfl) (fun K hK => ?_)
      refine wp_push elAssign (.tmp 24) (.tmp 26) rfl (HL4.out.new HX.out.2 (below_drewA w4)).rowa (pair_cel _ _ _ _) (y := a) (C := w1.heap.size) ((HZ4.out.2.2.kept (D := fun _ => False) (Kept.of_below (below_drewA w4)) (fun _ _ _ h => h)).imp fun W hW => ⟨_, by rw [← HTA.out]; rfl, hW⟩) HL1.out.box.lt (fun k hk => (HL1.out.rowa.lt k (.inr hk)).2) (by have := HL4.out.fewa; omega) (by rw [HNA.out]; rfl) rfl (HL4.out.new HX.out.2 (below_drewA w4)).box.lt ?_
      intro p6 c6 F6 w21 hr6 hF6 hat6 hk6
      have HS6 := Lib.hid (And.intro hr6 (And.intro hF6 (And.intro hat6 hk6)))
      have HB6 := Lib.hid ((HL4.out.new HX.out.2 (below_drewA w4)).box.turn HX.out.2 HX.out.1 hk6 (fun k hk => (HL4.out.rowa.lt k (.inr hk)).1))
      have HZ6 := Lib.hid (hk6.heap (k := w3.heap.size) HZ4.out.1 (fun e => by have := (HL3.out.rowa.lt _ (.inr e)).2; omega))
      clear hr6 hF6 hat6 hk6
      refine hK.out _ _ ?_ ?_
      · exact .inr ⟨by rw [cell_plain HB6.out.box, ← HNA.out]; rfl, HZ6.out⟩
      clear hK K
      simp only [Act.put, List.getElem_toArray, List.getElem_cons_succ, List.getElem_cons_zero, List.setIfInBounds_toArray, List.set_cons_zero, List.set_cons_succ]
      refine nextL (i := 8) (by kernel_rfl) rfl (by kernel_rfl) (fun K hK => ?_)
      go_simp
      refine hK.out _ _ ?_ ?_
      · exact .inr ⟨by rw [cell_plain HB6.out.box, ← HNA.out]; rfl, HZ6.out⟩
      clear hK K
      refine nextL (i := 9) (by kernel_rfl) rfl (by kernel_rfl) (fun K hK => ?_)
      go_simp
      refine hK.out _ _ ?_ ?_
      · exact .inr ⟨by rw [cell_plain HB6.out.box, ← HNA.out]; rfl, HZ6.out⟩
      clear hK K
      refine nextL (i := 10) (by kernel_rfl) rfl (by kernel_rfl) (fun K hK => ?_)
      have d3 : w21.cell? ⟨Y, 5, none⟩ = some (.slice pa na ca) := (by rw [cell_plain HB6.out.box, ← HNA.out]; rfl)
      have e3 : w21.frozen? ⟨Y, 5, none⟩ = false := frozen_plain HB6.out.box 5
      go_simp
      refine hK.out _ _ ?_ ?_
      · exact .inl (by kernel_rfl)
      clear hK K
      refine doneL (by kernel_rfl) ?_ _
      have HP := Lib.hid ((HL4.out.new HX.out.2 (below_drewA w4)).pusha (by decide) HX.out.2 HX.out.1 (fun k hk => (HL1.out.roww.lt k (.inr hk)).2) (fun k hk => (HL1.out.rowr.lt k (.inr hk)).2) HS6.out.1 HS6.out.2.1 HS6.out.2.2.1 HS6.out.2.2.2)
      obtain ⟨w22, hw22⟩ : ∃ w22, w22 = w21.setCell ⟨Y, 5, none⟩ (.slice p6 (n.assigns.length + 1) c6) := ⟨_, rfl⟩
      rw [← hw22] at HP ⊢
      clear hw22
      go_wp2_with (go_at_call 105; refine (ptake_any HP.out.box.pr).mono ?_; rintro en w23 ⟨p9, k9, rfl, -, hs⟩; have HP9 := Lib.hid (HP.out.step (M' := 4002) HX.out.2 hs (by decide) (by have := HFT.out; omega)); clear hs)
      (try simp only [Exit.inBlock, Exit.then])
      refine bodyPost_ret (results_none rfl _ _ _) rfl ?_
      refine ⟨rfl, ?_⟩
      rw [HM.out]
      exact ⟨_, HP9.out⟩
    | none =>
      rw [hA] at HASG
      have HA := Lib.hid (show assignO S.hd.word = none from by rw [HPS.out]; exact hA)
      clear hA
      have HRS := Lib.hid (fun W => reserved_any (textK S.hd) W)
      have HPR := Lib.hid HL.out.box.pr
      by_cases h3 : n.assigns = []
      case neg =>
        have HM := Lib.hid (part_first H1.out HA.out (.inl h3))
        have hna1 : ¬ na = 0 := fun e => h3 (List.length_eq_zero_iff.1 (HNA.out.trans e))
        have hn0 : ((na : Int) == 0) = false := by
          have : ¬ (na : Int) = 0 := by omega
          simpa using this
        clear h3 hna1
        go_enter Tryz.func190, Tryz.ntmps190
        go_wp2_with (first
          | (go_at_call 45; (with_reducible refine (HNX.out _ HPR.out).mono ?_); rintro en w1 ⟨p, k, rfl, hu, hb1⟩; have qf := tok_f2 kd at_ tx p wl k; have HL1 := Lib.hid (HL.out.new HX.out.2 hb1); have HU1 := Lib.hid hu; clear hb1 hu)
          | (go_at_call 197; refine (HASG.out w1 HL1.out.box.pr.below p k HU1.out.1 HU1.out.2).mono ?_; rintro en w3 ⟨hb3, rfl⟩; have HL3 := Lib.hid (HL1.out.new HX.out.2 hb3); have HL4 := Lib.hid (HL3.out.new HX.out.2 (below_new w3 (.cells #[.string ⟨#[]⟩, .slice none 0 0] 105))); have g5 : ∀ o, (w3.alloc o).cell? ⟨Y, 5, none⟩ = some (.slice pa na ca) := cell_alloc (by rw [cell_plain HL3.out.box.box, ← HNA.out]; rfl); have HPR2 := Lib.hid HL4.out.box.pr; clear hb3))
        obtain ⟨w6, hw6⟩ : ∃ w6, w6 = w3.alloc (.cells #[.string ⟨#[]⟩, .slice none 0 0] 105) := ⟨_, rfl⟩
        rw [← hw6] at HL4 ⊢
        clear hw6
        refine regionL (S := (fun W => W.cell? ⟨Y, 3, none⟩ = some (.slice pw 0 cw))) (L := 11) (by kernel_rfl) ?_ (fun hHeld => ?_)
        · exact (by rw [cell_plain (HL4.out.new HX.out.2 (below_drewA w6)).box.box, ← HNW.out]; rfl)
        refine takeL (i := 0) (k := 46) (v := ?_) rfl (by kernel_rfl) (by kernel_rfl) (by kernel_rfl) (by kernel_rfl) (fun _ _ _ h => h) (by kernel_rfl) (by kernel_rfl) (by kernel_rfl) (by rfl) ?_ (by assumption) ?_
        rotate_left
        · intro w hSw; (try dsimp only at hSw); go_simp <;> (with_reducible rfl)
        simp only [List.setIfInBounds_toArray, List.set_cons_zero, List.set_cons_succ]
        refine takeL (i := 1) (k := 47) (v := ?_) rfl (by kernel_rfl) (by kernel_rfl) (by kernel_rfl) (by kernel_rfl) (fun _ _ _ h => h) (by kernel_rfl) (by kernel_rfl) (by kernel_rfl) (by rfl) ?_ (by assumption) ?_
        rotate_left
        · intro w hSw; (try dsimp only at hSw); go_simp <;> (with_reducible rfl)
        simp only [List.setIfInBounds_toArray, List.set_cons_zero, List.set_cons_succ]
        refine takeL (i := 2) (k := 48) (v := ?_) rfl (by kernel_rfl) (by kernel_rfl) (by kernel_rfl) (by kernel_rfl) (fun _ _ _ h => h) (by kernel_rfl) (by kernel_rfl) (by kernel_rfl) (by rfl) ?_ (by assumption) ?_
        rotate_left
        · intro w hSw; (try dsimp only at hSw); go_simp <;> (with_reducible rfl)
        simp only [List.setIfInBounds_toArray, List.set_cons_zero, List.set_cons_succ]
        refine takeL (i := 3) (k := 49) (v := ?_) rfl (by kernel_rfl) (by kernel_rfl) (by kernel_rfl) (by kernel_rfl) (fun _ _ _ h => h) (by kernel_rfl) (by kernel_rfl) (by kernel_rfl) (by rfl) ?_ (by assumption) ?_
        rotate_left
        · intro w hSw; (try dsimp only at hSw); go_simp <;> (with_reducible rfl)
        simp only [List.setIfInBounds_toArray, List.set_cons_zero, List.set_cons_succ]
        refine takeL (i := 4) (k := 50) (v := ?_) rfl (by kernel_rfl) (by kernel_rfl) (by kernel_rfl) (by kernel_rfl) (fun _ _ _ h => h) (by kernel_rfl) (by kernel_rfl) (by kernel_rfl) (by rfl) ?_ (by assumption) ?_
        rotate_left
        · intro w hSw; (try dsimp only at hSw); go_simp <;> (with_reducible rfl)
        simp only [List.setIfInBounds_toArray, List.set_cons_zero, List.set_cons_succ]
        refine takeL (i := 5) (k := 51) (v := ?_) rfl (by kernel_rfl) (by kernel_rfl) (by kernel_rfl) (by kernel_rfl) (fun _ _ _ h => h) (by kernel_rfl) (by kernel_rfl) (by kernel_rfl) (by rfl) ?_ (by assumption) ?_
        rotate_left
        · intro w hSw; (try dsimp only at hSw); go_simp <;> (with_reducible rfl)
        simp only [List.setIfInBounds_toArray, List.set_cons_zero, List.set_cons_succ]
        refine nextL (i := 6) (by kernel_rfl) rfl (by kernel_rfl) (fun K hK => ?_)
        go_simp
        go_wp2_with (go_at_call 191; refine (HWD.out _ (HL4.out.new HX.out.2 (below_drewA w6)).box.pr).mono ?_; rintro en w20 ⟨p5, k5, rfl, hu, hs⟩; have HS5 := Lib.hid (And.intro hu ((HL4.out.new HX.out.2 (below_drewA w6)).step (M' := 4001) HX.out.2 hs (by decide) (by have := HFW.out; omega))); clear hs hu)
        refine hK.out _ _ ?_ ?_
        · exact .inr (by rw [cell_plain HS5.out.2.box.box, ← HNW.out]; rfl)
        clear hK K
        refine nextL (i := 7) (by kernel_rfl) rfl (by kernel_rfl) (fun K hK => ?_)
        refine wp_one elWord (.tmp 52) rfl _ [.slice p5 yl k5] rfl (slice_cel _ _ _) rfl ?_
        refine hK.out _ _ ?_ ?_
        · exact .inr (by rw [cell_plain (HS5.out.2.new HX.out.2 (below_new w20 _)).box.box, ← HNW.out]; rfl)
        clear hK K
        simp only [Act.put, List.getElem_toArray, List.getElem_cons_succ, List.getElem_cons_zero, List.setIfInBounds_toArray, List.set_cons_zero, List.set_cons_succ]
        refine nextL (i := 8) (by kernel_rfl) rfl (by kernel_rfl) (fun K hK => ?_)
        refine wp_push elWord (.tmp 50) (.tmp 53) rfl HS5.out.2.roww (slice_cel _ _ _) (word_new (C := w6.heap.size) HS5.out.1) HL4.out.box.lt (fun k hk => (HL4.out.roww.lt k (.inr hk)).2) (by have := HS5.out.2.feww; omega) (by rw [HNW.out]; rfl) rfl HS5.out.2.box.lt ?_
        intro p6 c6 F6 w21 hr6 hF6 hat6 hk6
        have HS6 := Lib.hid (And.intro hr6 (And.intro hF6 (And.intro hat6 hk6)))
        have HB6 := Lib.hid (HS5.out.2.box.turn HX.out.2 HX.out.1 hk6 (fun k hk => (HS5.out.2.roww.lt k (.inr hk)).1))
        clear hr6 hF6 hat6 hk6
        refine hK.out _ _ ?_ ?_
        · exact .inr (by rw [cell_plain HB6.out.box, ← HNW.out]; rfl)
        clear hK K
        simp only [Act.put, List.getElem_toArray, List.getElem_cons_succ, List.getElem_cons_zero, List.setIfInBounds_toArray, List.set_cons_zero, List.set_cons_succ]
        refine nextL (i := 9) (by kernel_rfl) rfl (by kernel_rfl) (fun K hK => ?_)
        go_simp
        refine hK.out _ _ ?_ ?_
        · exact .inr (by rw [cell_plain HB6.out.box, ← HNW.out]; rfl)
        clear hK K
        refine nextL (i := 10) (by kernel_rfl) rfl (by kernel_rfl) (fun K hK => ?_)
        go_simp
        refine hK.out _ _ ?_ ?_
        · exact .inr (by rw [cell_plain HB6.out.box, ← HNW.out]; rfl)
        clear hK K
        refine nextL (i := 11) (by kernel_rfl) rfl (by kernel_rfl) (fun K hK => ?_)
        have d3 : w21.cell? ⟨Y, 3, none⟩ = some (.slice pw 0 cw) := (by rw [cell_plain HB6.out.box, ← HNW.out]; rfl)
        have e3 : w21.frozen? ⟨Y, 3, none⟩ = false := frozen_plain HB6.out.box 3
        go_simp
        refine hK.out _ _ ?_ ?_
        · exact .inl (by kernel_rfl)
        clear hK K
        refine doneL (by kernel_rfl) ?_ _
        have HP := Lib.hid (HS5.out.2.pushw (by decide) HX.out.2 HX.out.1 (fun k hk => (HL4.out.rowa.lt k (.inr hk)).2) (fun k hk => (HL4.out.rowr.lt k (.inr hk)).2) HS6.out.1 HS6.out.2.1 HS6.out.2.2.1 HS6.out.2.2.2)
        go_wp2_with fail
        go_end0
        refine ⟨rfl, ?_⟩
        rw [HM.out, HY.out]
        exact ⟨_, HP.out⟩
      case pos =>
        have H3 := Lib.hid h3
        obtain rfl : na = 0 := by rw [← HNA.out, h3]; rfl
        clear h3
        cases hr : reservedT (textK S.hd) with
        | true =>
          rw [hr] at HRS
          have HM := Lib.hid (part_bad H1.out HA.out H3.out hr)
          clear hr
          go_enter Tryz.func190, Tryz.ntmps190
          go_wp2_with (first
            | (go_at_call 45; (with_reducible refine (HNX.out _ HPR.out).mono ?_); rintro en w1 ⟨p, k, rfl, hu, hb1⟩; have qf := tok_f2 kd at_ tx p wl k; have HL1 := Lib.hid (HL.out.new HX.out.2 hb1); have HU1 := Lib.hid hu; clear hb1 hu)
            | (go_at_call 197; refine (HASG.out w1 HL1.out.box.pr.below p k HU1.out.1 HU1.out.2).mono ?_; rintro en w3 ⟨hb3, rfl⟩; have HL3 := Lib.hid (HL1.out.new HX.out.2 hb3); have HL4 := Lib.hid (HL3.out.new HX.out.2 (below_new w3 (.cells #[.string ⟨#[]⟩, .slice none 0 0] 105))); have g5 : ∀ o, (w3.alloc o).cell? ⟨Y, 5, none⟩ = some (.slice pa 0 ca) := cell_alloc (by rw [cell_plain HL3.out.box.box, ← HNA.out]; rfl); have HPR2 := Lib.hid HL4.out.box.pr; clear hb3)
            | (go_at_call 45; refine (HNXT.out _ HPR2.out).mono ?_; rintro en w5 ⟨p5, k5, rfl, hu, hb1⟩; have HL5 := Lib.hid (HL4.out.new HX.out.2 hb1); have HC5 := Lib.hid (HTXT.out _ HL5.out.box.pr.below p5 k5 hu); clear hb1 hu)
            | (go_at_call 104; refine HC5.out.mono ?_; rintro en w6 ⟨rfl, hb⟩; have HL6 := Lib.hid (HL5.out.new HX.out.2 hb); clear hb)
            | (go_at_call 180; refine (HRS.out _).mono ?_; rintro en w7 ⟨rfl, rfl⟩)
            | (go_at_call 46; refine (pfail_any HL6.out.box.pr 2 (by decide)).mono ?_; rintro en w8 ⟨rfl, hs⟩; have HL8 := Lib.hid (HL6.out.step (M' := 4002) HX.out.2 hs (by decide) (by have := (to_fail HL6.out.box.pr.good (e := 2) (by decide)).len; omega)); clear hs))
          (try simp only [Exit.inBlock, Exit.then])
          refine bodyPost_ret (results_none rfl _ _ _) rfl ?_
          refine ⟨rfl, ?_⟩
          rw [HM.out]
          exact ⟨_, HL8.out⟩
        | false =>
          rw [hr] at HRS
          have HM := Lib.hid (part_first H1.out HA.out (.inr hr))
          clear hr
          go_enter Tryz.func190, Tryz.ntmps190
          go_wp2_with (first
            | (go_at_call 45; (with_reducible refine (HNX.out _ HPR.out).mono ?_); rintro en w1 ⟨p, k, rfl, hu, hb1⟩; have qf := tok_f2 kd at_ tx p wl k; have HL1 := Lib.hid (HL.out.new HX.out.2 hb1); have HU1 := Lib.hid hu; clear hb1 hu)
            | (go_at_call 197; refine (HASG.out w1 HL1.out.box.pr.below p k HU1.out.1 HU1.out.2).mono ?_; rintro en w3 ⟨hb3, rfl⟩; have HL3 := Lib.hid (HL1.out.new HX.out.2 hb3); have HL4 := Lib.hid (HL3.out.new HX.out.2 (below_new w3 (.cells #[.string ⟨#[]⟩, .slice none 0 0] 105))); have g5 : ∀ o, (w3.alloc o).cell? ⟨Y, 5, none⟩ = some (.slice pa 0 ca) := cell_alloc (by rw [cell_plain HL3.out.box.box, ← HNA.out]; rfl); have HPR2 := Lib.hid HL4.out.box.pr; clear hb3)
            | (go_at_call 45; refine (HNXT.out _ HPR2.out).mono ?_; rintro en w5 ⟨p5, k5, rfl, hu, hb1⟩; have HL5 := Lib.hid (HL4.out.new HX.out.2 hb1); have HC5 := Lib.hid (HTXT.out _ HL5.out.box.pr.below p5 k5 hu); clear hb1 hu)
            | (go_at_call 104; refine HC5.out.mono ?_; rintro en w6 ⟨rfl, hb⟩; have HL6 := Lib.hid (HL5.out.new HX.out.2 hb); clear hb)
            | (go_at_call 180; refine (HRS.out _).mono ?_; rintro en w7 ⟨rfl, rfl⟩))
          refine regionL (S := (fun W => W.cell? ⟨Y, 3, none⟩ = some (.slice pw 0 cw))) (L := 11) (by kernel_rfl) ?_ (fun hHeld => ?_)
          · exact (by rw [cell_plain (HL6.out.new HX.out.2 (below_drewA w6)).box.box, ← HNW.out]; rfl)
          refine takeL (i := 0) (k := 46) (v := ?_) rfl (by kernel_rfl) (by kernel_rfl) (by kernel_rfl) (by kernel_rfl) (fun _ _ _ h => h) (by kernel_rfl) (by kernel_rfl) (by kernel_rfl) (by rfl) ?_ (by assumption) ?_
          rotate_left
          · intro w hSw; (try dsimp only at hSw); go_simp <;> (with_reducible rfl)
          simp only [List.setIfInBounds_toArray, List.set_cons_zero, List.set_cons_succ]
          refine takeL (i := 1) (k := 47) (v := ?_) rfl (by kernel_rfl) (by kernel_rfl) (by kernel_rfl) (by kernel_rfl) (fun _ _ _ h => h) (by kernel_rfl) (by kernel_rfl) (by kernel_rfl) (by rfl) ?_ (by assumption) ?_
          rotate_left
          · intro w hSw; (try dsimp only at hSw); go_simp <;> (with_reducible rfl)
          simp only [List.setIfInBounds_toArray, List.set_cons_zero, List.set_cons_succ]
          refine takeL (i := 2) (k := 48) (v := ?_) rfl (by kernel_rfl) (by kernel_rfl) (by kernel_rfl) (by kernel_rfl) (fun _ _ _ h => h) (by kernel_rfl) (by kernel_rfl) (by kernel_rfl) (by rfl) ?_ (by assumption) ?_
          rotate_left
          · intro w hSw; (try dsimp only at hSw); go_simp <;> (with_reducible rfl)
          simp only [List.setIfInBounds_toArray, List.set_cons_zero, List.set_cons_succ]
          refine takeL (i := 3) (k := 49) (v := ?_) rfl (by kernel_rfl) (by kernel_rfl) (by kernel_rfl) (by kernel_rfl) (fun _ _ _ h => h) (by kernel_rfl) (by kernel_rfl) (by kernel_rfl) (by rfl) ?_ (by assumption) ?_
          rotate_left
          · intro w hSw; (try dsimp only at hSw); go_simp <;> (with_reducible rfl)
          simp only [List.setIfInBounds_toArray, List.set_cons_zero, List.set_cons_succ]
          refine takeL (i := 4) (k := 50) (v := ?_) rfl (by kernel_rfl) (by kernel_rfl) (by kernel_rfl) (by kernel_rfl) (fun _ _ _ h => h) (by kernel_rfl) (by kernel_rfl) (by kernel_rfl) (by rfl) ?_ (by assumption) ?_
          rotate_left
          · intro w hSw; (try dsimp only at hSw); go_simp <;> (with_reducible rfl)
          simp only [List.setIfInBounds_toArray, List.set_cons_zero, List.set_cons_succ]
          refine takeL (i := 5) (k := 51) (v := ?_) rfl (by kernel_rfl) (by kernel_rfl) (by kernel_rfl) (by kernel_rfl) (fun _ _ _ h => h) (by kernel_rfl) (by kernel_rfl) (by kernel_rfl) (by rfl) ?_ (by assumption) ?_
          rotate_left
          · intro w hSw; (try dsimp only at hSw); go_simp <;> (with_reducible rfl)
          simp only [List.setIfInBounds_toArray, List.set_cons_zero, List.set_cons_succ]
          refine nextL (i := 6) (by kernel_rfl) rfl (by kernel_rfl) (fun K hK => ?_)
          go_simp
          go_wp2_with (go_at_call 191; refine (HWD.out _ (HL6.out.new HX.out.2 (below_drewA w6)).box.pr).mono ?_; rintro en w20 ⟨p5, k5, rfl, hu, hs⟩; have HS5 := Lib.hid (And.intro hu ((HL6.out.new HX.out.2 (below_drewA w6)).step (M' := 4001) HX.out.2 hs (by decide) (by have := HFW.out; omega))); clear hs hu)
          refine hK.out _ _ ?_ ?_
          · exact .inr (by rw [cell_plain HS5.out.2.box.box, ← HNW.out]; rfl)
          clear hK K
          refine nextL (i := 7) (by kernel_rfl) rfl (by kernel_rfl) (fun K hK => ?_)
          refine wp_one elWord (.tmp 52) rfl _ [.slice p5 yl k5] rfl (slice_cel _ _ _) rfl ?_
          refine hK.out _ _ ?_ ?_
          · exact .inr (by rw [cell_plain (HS5.out.2.new HX.out.2 (below_new w20 _)).box.box, ← HNW.out]; rfl)
          clear hK K
          simp only [Act.put, List.getElem_toArray, List.getElem_cons_succ, List.getElem_cons_zero, List.setIfInBounds_toArray, List.set_cons_zero, List.set_cons_succ]
          refine nextL (i := 8) (by kernel_rfl) rfl (by kernel_rfl) (fun K hK => ?_)
          refine wp_push elWord (.tmp 50) (.tmp 53) rfl HS5.out.2.roww (slice_cel _ _ _) (word_new (C := w6.heap.size) HS5.out.1) HL6.out.box.lt (fun k hk => (HL6.out.roww.lt k (.inr hk)).2) (by have := HS5.out.2.feww; omega) (by rw [HNW.out]; rfl) rfl HS5.out.2.box.lt ?_
          intro p6 c6 F6 w21 hr6 hF6 hat6 hk6
          have HS6 := Lib.hid (And.intro hr6 (And.intro hF6 (And.intro hat6 hk6)))
          have HB6 := Lib.hid (HS5.out.2.box.turn HX.out.2 HX.out.1 hk6 (fun k hk => (HS5.out.2.roww.lt k (.inr hk)).1))
          clear hr6 hF6 hat6 hk6
          refine hK.out _ _ ?_ ?_
          · exact .inr (by rw [cell_plain HB6.out.box, ← HNW.out]; rfl)
          clear hK K
          simp only [Act.put, List.getElem_toArray, List.getElem_cons_succ, List.getElem_cons_zero, List.setIfInBounds_toArray, List.set_cons_zero, List.set_cons_succ]
          refine nextL (i := 9) (by kernel_rfl) rfl (by kernel_rfl) (fun K hK => ?_)
          go_simp
          refine hK.out _ _ ?_ ?_
          · exact .inr (by rw [cell_plain HB6.out.box, ← HNW.out]; rfl)
          clear hK K
          refine nextL (i := 10) (by kernel_rfl) rfl (by kernel_rfl) (fun K hK => ?_)
          go_simp
          refine hK.out _ _ ?_ ?_
          · exact .inr (by rw [cell_plain HB6.out.box, ← HNW.out]; rfl)
          clear hK K
          refine nextL (i := 11) (by kernel_rfl) rfl (by kernel_rfl) (fun K hK => ?_)
          have d3 : w21.cell? ⟨Y, 3, none⟩ = some (.slice pw 0 cw) := (by rw [cell_plain HB6.out.box, ← HNW.out]; rfl)
          have e3 : w21.frozen? ⟨Y, 3, none⟩ = false := frozen_plain HB6.out.box 3
          go_simp
          refine hK.out _ _ ?_ ?_
          · exact .inl (by kernel_rfl)
          clear hK K
          refine doneL (by kernel_rfl) ?_ _
          have HP := Lib.hid (HS5.out.2.pushw (by decide) HX.out.2 HX.out.1 (fun k hk => (HL6.out.rowa.lt k (.inr hk)).2) (fun k hk => (HL6.out.rowr.lt k (.inr hk)).2) HS6.out.1 HS6.out.2.1 HS6.out.2.2.1 HS6.out.2.2.2)
          go_wp2_with fail
          go_end0
          refine ⟨rfl, ?_⟩
          rw [HM.out, HY.out]
          exact ⟨_, HP.out⟩
end Go.Proofs.YtakceggnadagmaaGreatDoor
