/-
  Proved: a contract of tree's row. Conditions: none.
-/
import Derived.Test.YtloaalapkmbgeaaDoorTreePart2
import Derived.Test.YtloaalapkmbgeaaDoorTreeTake
import Derived.Deep.RegionWith
import Derived.Deep.QuietTactic
import Derived.BigQuiet
import Derived.LoopTactic
namespace Go.Proofs.YtloaalapkmbgeaaDoor
open Go Go.RowKit GlyphMath LexMath TreeMath

/-- What stands ahead of a place. -/
def prevO (ps : List Pt) (j : Nat) : Option Pt := match j with
  | 0 => none
  | m + 1 => ps[m]?
theorem drop_get {α : Type} {l : List α} {j : Nat} {q : α} (h : l[j]? = some q) : l.drop j = q :: l.drop (j + 1) := by
  obtain ⟨hj, rfl⟩ := List.getElem?_eq_some_iff.1 h
  exact List.drop_eq_getElem_cons hj

theorem below_drew1 (B : Nat) (w : World) : Below B w w.drew := ⟨rfl, rfl, rfl, Nat.le_refl _, fun _ _ => rfl⟩

set_option linter.unusedSimpArgs false in
set_option maxHeartbeats 600000 in
set_option maxRecDepth 100000 in
theorem row_next {k d : Nat} (hk : k + d = 20) (hR : RowDo k (d + 1)) : RowDo (k + 1) d := by
  intro ps v w hv hs
  obtain ⟨p, c, rfl, hlen, hat⟩ := hv.is
  have HP := Lib.hid (fun (q : Pt) (u : Value) (W : World) (hu : PsAt W u q.word) (hw : q.text.length ≤ 1048576 ∧ Small q.word) => tpart_any (show d ≤ 20 by omega) hR q u W hu hw.2 hw.1)
  have HAT := Lib.hid hat
  have HSM := Lib.hid (fun q (hq : q ∈ ps) => hs.get hq)
  obtain ⟨f, hf⟩ : ∃ f, partT (rowT k) (decide (0 < d)) = f := ⟨_, rfl⟩
  have hkd : decide (k < 20) = decide (0 < d) := decide_eq_decide.2 (by omega)
  obtain ⟨R, hRR⟩ : ∃ R, rowT (k + 1) ps = R := ⟨_, rfl⟩
  have HRR := Lib.hid (show sideT f none ps = R from by rw [← hRR, ← hf, rowT, hkd])
  rw [hRR]
  have HP := Lib.hid (show ∀ (q : Pt) (u : Value) (W : World), PsAt W u q.word → (q.text.length ≤ 1048576 ∧ Small q.word) → Calls Tryd.prog 35 #[partV q u, .int .i64 (d : Int)] W fun e w' => e = .returned (.bool (f q)) ∧ Below W.heap.size W w' from by rw [← hf]; exact HP.out)
  have hd20 : ¬ (20 : Int) < (d : Int) := by omega
  obtain ⟨N, hN⟩ : ∃ N, ps.length = N := ⟨_, rfl⟩
  have HN := Lib.hid hN
  have hN0 : (N : Int) ≤ 2 ^ 63 - 1 := by unfold maxLen at hlen; omega
  rw [hN]
  clear hf hkd hRR hv hs hlen hat hk hR hN
  go_enter Tryd.func19, Tryd.ntmps19
  go_wp2_with fail
  go_loopw [11] (fun i wr => ∃ j, j ≤ N ∧ i = .int .i64 (j : Int) ∧ Below w.heap.size w wr ∧ sideT f (prevO ps j) (ps.drop j) = R) (fun i _ => N - (intOf i).toNat)
  case atStart => exact ⟨0, by omega, rfl, Below.refl _ _, HRR.out⟩
  case round =>
    obtain ⟨j, hj, rfl, hb, hsd⟩ := hrel
    by_cases hlt : j < N
    · obtain ⟨q, hq⟩ : ∃ x, ps[j]? = some x := ⟨_, List.getElem?_eq_getElem (by rw [HN.out]; exact hlt)⟩
      obtain ⟨u, hsp, hu⟩ := HAT.out j q hq
      have hsp := hsp.below hb
      have hu := hu.stays hb
      obtain ⟨b, o, rfl, hc⟩ := hsp
      have c0 := hc 0 _ rfl
      have c1 := hc 1 _ rfl
      have c2 := hc 2 _ rfl
      have c3 := hc 3 _ rfl
      have c4 := hc 4 _ rfl
      rw [drop_get hq, sideT] at hsd
      have HSD := Lib.hid hsd
      have HB := Lib.hid hb
      have hj0 : (j : Int) < (N : Int) := by omega
      have HU := Lib.hid hu
      obtain ⟨up, uc, rfl, -, -⟩ := hu.is
      obtain ⟨ul, hul⟩ : ∃ ul, q.word.length = ul := ⟨_, rfl⟩
      rw [hul] at c3 HU
      have HJ := Lib.hid hlt
      have HQ := Lib.hid hq
      clear hc hsd hb hlt hj hul hq
      unfold txt at c1 c2
      rw [Nat.add_zero] at c0
      obtain ⟨P, hP⟩ : ∃ P, f q = P := ⟨_, rfl⟩
      obtain ⟨kd, tx, op, wd, qq⟩ := q
      simp only at c0 c1 c2 c3 c4
      obtain ⟨s, hs⟩ : ∃ s, T tx = s := ⟨_, rfl⟩
      obtain ⟨s2, hs2⟩ : ∃ s, T op = s := ⟨_, rfl⟩
      replace c1 : wr.cell? ⟨b, o + j * 5 + 1, none⟩ = some (.string s) := by rw [← hs]; exact c1
      replace c2 : wr.cell? ⟨b, o + j * 5 + 2, none⟩ = some (.string s2) := by rw [← hs2]; exact c2
      obtain ⟨w1, hw1⟩ : ∃ w1, wr.alloc (.cells #[.int .i64 kd, .string s, .string s2, .slice up ul uc, .bool qq] 30) = w1 := ⟨_, rfl⟩
      have hb1 : Below wr.heap.size wr w1 := by rw [← hw1]; exact below_one _ _
      have hpc : PC w1 wr.heap.size kd s s2 (.slice up ul uc) qq := by rw [← hw1]; exact PC.new _ _ _ _ _ _ _
      have HPQ := Lib.hid (show Calls Tryd.prog 35 #[.agg #[.int .i64 kd, .string s, .string s2, .slice up ul uc, .bool qq], .int .i64 (d : Int)] w1.drew fun e w' => e = .returned (.bool P) ∧ Below w1.heap.size w1 w' from by
        rw [← hP, ← hs, ← hs2]
        refine (HP.out ⟨kd, tx, op, wd, qq⟩ (.slice up ul uc) w1.drew (HU.out.stays (hb1.trans ((below_drew1 _ _).mono hb1.size))) (HSM.out _ (List.mem_of_getElem? HQ.out))).mono ?_
        rintro e w' ⟨rfl, hb⟩
        exact ⟨rfl, (below_drew1 _ _).trans hb⟩)
      have HW1 := Lib.hid (And.intro hw1 (And.intro hb1 hpc))
      rw [hP] at HSD
      have HSS := Lib.hid (And.intro hs hs2)
      clear hw1 hb1 hpc hP hs hs2
      cases P
      · have HRf := Lib.hid (show false = R from HSD.out)
        go_wp2_with fail
        rw [HW1.out.1]
        obtain ⟨d0, d1, d2, d3, d4⟩ := HW1.out.2.2
        refine wp_region_held_drew (S := (fun W => W.cell? ⟨wr.heap.size, 0, none⟩ = some (.int .i64 kd) ∧ W.cell? ⟨wr.heap.size, 1, none⟩ = some (.string s) ∧ W.cell? ⟨wr.heap.size, 2, none⟩ = some (.string s2) ∧ W.cell? ⟨wr.heap.size, 3, none⟩ = some (.slice up ul uc) ∧ W.cell? ⟨wr.heap.size, 4, none⟩ = some (.bool qq))) (by kernel_rfl) ?_ (fun hHeld => ?_)
        · exact HW1.out.2.2
        refine takeW (i := 0) (k := 16) (v := ?_) rfl (by kernel_rfl) (by kernel_rfl) (by kernel_rfl) (by kernel_rfl) (fun _ _ _ h => h) (by rfl) ?_ (by assumption) ?_
        rotate_left
        · intro w hSw; (try dsimp only at hSw); go_simp <;> (with_reducible rfl)
        simp only [List.setIfInBounds_toArray, List.set_cons_zero, List.set_cons_succ]
        refine takeW (i := 1) (k := 17) (v := ?_) rfl (by kernel_rfl) (by kernel_rfl) (by kernel_rfl) (by kernel_rfl) (fun _ _ _ h => h) (by rfl) ?_ (by assumption) ?_
        rotate_left
        · intro w hSw; (try dsimp only at hSw); go_simp <;> (with_reducible rfl)
        simp only [List.setIfInBounds_toArray, List.set_cons_zero, List.set_cons_succ]
        refine wpAnyH_ready (rs := [2]) (by kernel_rfl) (by simp) ?_
        refine AllReadyH.cons rfl (fun K hK => ?_) ?_
        rotate_left
        · exact AllReadyH.nil
        go_simp
        go_wp2_with ((go_at_call 35; refine HPQ.out.mono ?_; rintro e w2 ⟨rfl, hb⟩; have HB2 := Lib.hid hb; have HPC := Lib.hid (HW1.out.2.2.below hb); clear hb))
        refine hK.out _ _ ?_ (fun hHeld => ?_)
        · exact HPC.out
        clear hK K
        refine takeW (i := 3) (k := 19) (v := ?_) rfl (by kernel_rfl) (by kernel_rfl) (by kernel_rfl) (by kernel_rfl) (fun _ _ _ h => h) (by rfl) ?_ (by assumption) ?_
        rotate_left
        · intro w hSw; (try dsimp only at hSw); go_simp <;> (with_reducible rfl)
        simp only [List.setIfInBounds_toArray, List.set_cons_zero, List.set_cons_succ]
        refine takeW (i := 4) (k := 20) (v := ?_) rfl (by kernel_rfl) (by kernel_rfl) (by kernel_rfl) (by kernel_rfl) (fun _ _ _ h => h) (by rfl) ?_ (by assumption) ?_
        rotate_left
        · intro w hSw; (try dsimp only at hSw); go_simp <;> (with_reducible rfl)
        simp only [List.setIfInBounds_toArray, List.set_cons_zero, List.set_cons_succ]
        refine takeN (i := 5) (k := 21) rfl (by kernel_rfl) (by kernel_rfl) (by kernel_rfl) (by kernel_rfl) (fun _ _ _ h => h) (by rfl) (by assumption) ?_
        simp only [List.setIfInBounds_toArray, List.set_cons_zero, List.set_cons_succ]
        refine takeN (i := 6) (k := 22) rfl (by kernel_rfl) (by kernel_rfl) (by kernel_rfl) (by kernel_rfl) (fun _ _ _ h => h) (by rfl) (by assumption) ?_
        simp only [List.setIfInBounds_toArray, List.set_cons_zero, List.set_cons_succ]
        refine takeN (i := 7) (k := 23) rfl (by kernel_rfl) (by kernel_rfl) (by kernel_rfl) (by kernel_rfl) (fun _ _ _ h => h) (by rfl) (by assumption) ?_
        simp only [List.setIfInBounds_toArray, List.set_cons_zero, List.set_cons_succ]
        refine takeN (i := 8) (k := 24) rfl (by kernel_rfl) (by kernel_rfl) (by kernel_rfl) (by kernel_rfl) (fun _ _ _ h => h) (by rfl) (by assumption) ?_
        simp only [List.setIfInBounds_toArray, List.set_cons_zero, List.set_cons_succ]
        refine takeN (i := 9) (k := 25) rfl (by kernel_rfl) (by kernel_rfl) (by kernel_rfl) (by kernel_rfl) (fun _ _ _ h => h) (by rfl) (by assumption) ?_
        simp only [List.setIfInBounds_toArray, List.set_cons_zero, List.set_cons_succ]
        refine takeN (i := 10) (k := 26) rfl (by kernel_rfl) (by kernel_rfl) (by kernel_rfl) (by kernel_rfl) (fun _ _ _ h => h) (by rfl) (by assumption) ?_
        simp only [List.setIfInBounds_toArray, List.set_cons_zero, List.set_cons_succ]
        refine takeN (i := 11) (k := 27) rfl (by kernel_rfl) (by kernel_rfl) (by kernel_rfl) (by kernel_rfl) (fun _ _ _ h => h) (by rfl) (by assumption) ?_
        simp only [List.setIfInBounds_toArray, List.set_cons_zero, List.set_cons_succ]
        refine takeN (i := 12) (k := 28) rfl (by kernel_rfl) (by kernel_rfl) (by kernel_rfl) (by kernel_rfl) (fun _ _ _ h => h) (by rfl) (by assumption) ?_
        simp only [List.setIfInBounds_toArray, List.set_cons_zero, List.set_cons_succ]
        refine takeN (i := 13) (k := 29) rfl (by kernel_rfl) (by kernel_rfl) (by kernel_rfl) (by kernel_rfl) (fun _ _ _ h => h) (by rfl) (by assumption) ?_
        simp only [List.setIfInBounds_toArray, List.set_cons_zero, List.set_cons_succ]
        refine takeN (i := 14) (k := 30) rfl (by kernel_rfl) (by kernel_rfl) (by kernel_rfl) (by kernel_rfl) (fun _ _ _ h => h) (by rfl) (by assumption) ?_
        simp only [List.setIfInBounds_toArray, List.set_cons_zero, List.set_cons_succ]
        refine takeN (i := 15) (k := 31) rfl (by kernel_rfl) (by kernel_rfl) (by kernel_rfl) (by kernel_rfl) (fun _ _ _ h => h) (by rfl) (by assumption) ?_
        simp only [List.setIfInBounds_toArray, List.set_cons_zero, List.set_cons_succ]
        refine takeW (i := 16) (k := 32) (v := ?_) rfl (by kernel_rfl) (by kernel_rfl) (by kernel_rfl) (by kernel_rfl) (fun _ _ _ h => h) (by rfl) ?_ (by assumption) ?_
        rotate_left
        · intro w hSw; (try dsimp only at hSw); go_simp <;> (with_reducible rfl)
        simp only [List.setIfInBounds_toArray, List.set_cons_zero, List.set_cons_succ]
        refine wpAnyH_done (by kernel_rfl) ?_ _
        go_wp2_with fail
        go_ret
        exact ⟨ret_bool HRf.out, HB.out.trans ((HW1.out.2.1.trans (HB2.out.mono HW1.out.2.1.size)).mono HB.out.size)⟩
      · rcases Nat.eq_zero_or_pos j with hj | hj
        · have HNX := Lib.hid (show sideT f (some ⟨kd, tx, op, wd, qq⟩) (ps.drop (j + 1)) = R from by have := HSD.out; rw [show prevO ps j = none from by rw [hj]; rfl] at this; exact this)
          have hjz : decide (0 < j) = false := decide_eq_false (by omega)
          clear hj
          go_wp2_with fail
          rw [HW1.out.1]
          obtain ⟨d0, d1, d2, d3, d4⟩ := HW1.out.2.2
          refine wp_region_held_drew (S := (fun W => W.cell? ⟨wr.heap.size, 0, none⟩ = some (.int .i64 kd) ∧ W.cell? ⟨wr.heap.size, 1, none⟩ = some (.string s) ∧ W.cell? ⟨wr.heap.size, 2, none⟩ = some (.string s2) ∧ W.cell? ⟨wr.heap.size, 3, none⟩ = some (.slice up ul uc) ∧ W.cell? ⟨wr.heap.size, 4, none⟩ = some (.bool qq))) (by kernel_rfl) ?_ (fun hHeld => ?_)
          · exact HW1.out.2.2
          refine takeW (i := 0) (k := 16) (v := ?_) rfl (by kernel_rfl) (by kernel_rfl) (by kernel_rfl) (by kernel_rfl) (fun _ _ _ h => h) (by rfl) ?_ (by assumption) ?_
          rotate_left
          · intro w hSw; (try dsimp only at hSw); go_simp <;> (with_reducible rfl)
          simp only [List.setIfInBounds_toArray, List.set_cons_zero, List.set_cons_succ]
          refine takeW (i := 1) (k := 17) (v := ?_) rfl (by kernel_rfl) (by kernel_rfl) (by kernel_rfl) (by kernel_rfl) (fun _ _ _ h => h) (by rfl) ?_ (by assumption) ?_
          rotate_left
          · intro w hSw; (try dsimp only at hSw); go_simp <;> (with_reducible rfl)
          simp only [List.setIfInBounds_toArray, List.set_cons_zero, List.set_cons_succ]
          refine wpAnyH_ready (rs := [2]) (by kernel_rfl) (by simp) ?_
          refine AllReadyH.cons rfl (fun K hK => ?_) ?_
          rotate_left
          · exact AllReadyH.nil
          go_simp
          go_wp2_with ((go_at_call 35; refine HPQ.out.mono ?_; rintro e w2 ⟨rfl, hb⟩; have HB2 := Lib.hid hb; have HPC := Lib.hid (HW1.out.2.2.below hb); clear hb))
          refine hK.out _ _ ?_ (fun hHeld => ?_)
          · exact HPC.out
          clear hK K
          refine takeW (i := 3) (k := 19) (v := ?_) rfl (by kernel_rfl) (by kernel_rfl) (by kernel_rfl) (by kernel_rfl) (fun _ _ _ h => h) (by rfl) ?_ (by assumption) ?_
          rotate_left
          · intro w hSw; (try dsimp only at hSw); go_simp <;> (with_reducible rfl)
          simp only [List.setIfInBounds_toArray, List.set_cons_zero, List.set_cons_succ]
          refine takeW (i := 4) (k := 20) (v := ?_) rfl (by kernel_rfl) (by kernel_rfl) (by kernel_rfl) (by kernel_rfl) (fun _ _ _ h => h) (by rfl) ?_ (by assumption) ?_
          rotate_left
          · intro w hSw; (try dsimp only at hSw); go_simp <;> (with_reducible rfl)
          simp only [List.setIfInBounds_toArray, List.set_cons_zero, List.set_cons_succ]
          refine takeW (i := 5) (k := 21) (v := ?_) rfl (by kernel_rfl) (by kernel_rfl) (by kernel_rfl) (by kernel_rfl) (fun _ _ _ h => h) (by rfl) ?_ (by assumption) ?_
          rotate_left
          · intro w hSw; (try dsimp only at hSw); go_simp <;> (with_reducible rfl)
          simp only [List.setIfInBounds_toArray, List.set_cons_zero, List.set_cons_succ]
          refine takeW (i := 6) (k := 22) (v := ?_) rfl (by kernel_rfl) (by kernel_rfl) (by kernel_rfl) (by kernel_rfl) (fun _ _ _ h => h) (by rfl) ?_ (by assumption) ?_
          rotate_left
          · intro w hSw; (try dsimp only at hSw); go_simp <;> (with_reducible rfl)
          simp only [List.setIfInBounds_toArray, List.set_cons_zero, List.set_cons_succ]
          refine takeW (i := 7) (k := 23) (v := ?_) rfl (by kernel_rfl) (by kernel_rfl) (by kernel_rfl) (by kernel_rfl) (fun _ _ _ h => h) (by rfl) ?_ (by assumption) ?_
          rotate_left
          · intro w hSw; (try dsimp only at hSw); go_simp <;> (with_reducible rfl)
          simp only [List.setIfInBounds_toArray, List.set_cons_zero, List.set_cons_succ]
          refine takeN (i := 8) (k := 24) rfl (by kernel_rfl) (by kernel_rfl) (by kernel_rfl) (by kernel_rfl) (fun _ _ _ h => h) (by rfl) (by assumption) ?_
          simp only [List.setIfInBounds_toArray, List.set_cons_zero, List.set_cons_succ]
          refine takeN (i := 9) (k := 25) rfl (by kernel_rfl) (by kernel_rfl) (by kernel_rfl) (by kernel_rfl) (fun _ _ _ h => h) (by rfl) (by assumption) ?_
          simp only [List.setIfInBounds_toArray, List.set_cons_zero, List.set_cons_succ]
          refine takeN (i := 10) (k := 26) rfl (by kernel_rfl) (by kernel_rfl) (by kernel_rfl) (by kernel_rfl) (fun _ _ _ h => h) (by rfl) (by assumption) ?_
          simp only [List.setIfInBounds_toArray, List.set_cons_zero, List.set_cons_succ]
          refine takeN (i := 11) (k := 27) rfl (by kernel_rfl) (by kernel_rfl) (by kernel_rfl) (by kernel_rfl) (fun _ _ _ h => h) (by rfl) (by assumption) ?_
          simp only [List.setIfInBounds_toArray, List.set_cons_zero, List.set_cons_succ]
          refine takeN (i := 12) (k := 28) rfl (by kernel_rfl) (by kernel_rfl) (by kernel_rfl) (by kernel_rfl) (fun _ _ _ h => h) (by rfl) (by assumption) ?_
          simp only [List.setIfInBounds_toArray, List.set_cons_zero, List.set_cons_succ]
          refine takeN (i := 13) (k := 29) rfl (by kernel_rfl) (by kernel_rfl) (by kernel_rfl) (by kernel_rfl) (fun _ _ _ h => h) (by rfl) (by assumption) ?_
          simp only [List.setIfInBounds_toArray, List.set_cons_zero, List.set_cons_succ]
          refine takeN (i := 14) (k := 30) rfl (by kernel_rfl) (by kernel_rfl) (by kernel_rfl) (by kernel_rfl) (fun _ _ _ h => h) (by rfl) (by assumption) ?_
          simp only [List.setIfInBounds_toArray, List.set_cons_zero, List.set_cons_succ]
          refine takeW (i := 15) (k := 31) (v := ?_) rfl (by kernel_rfl) (by kernel_rfl) (by kernel_rfl) (by kernel_rfl) (fun _ _ _ h => h) (by rfl) ?_ (by assumption) ?_
          rotate_left
          · intro w hSw; (try dsimp only at hSw); go_simp <;> (with_reducible rfl)
          simp only [List.setIfInBounds_toArray, List.set_cons_zero, List.set_cons_succ]
          refine takeW (i := 16) (k := 32) (v := ?_) rfl (by kernel_rfl) (by kernel_rfl) (by kernel_rfl) (by kernel_rfl) (fun _ _ _ h => h) (by rfl) ?_ (by assumption) ?_
          rotate_left
          · intro w hSw; (try dsimp only at hSw); go_simp <;> (with_reducible rfl)
          simp only [List.setIfInBounds_toArray, List.set_cons_zero, List.set_cons_succ]
          refine wpAnyH_done (by kernel_rfl) ?_ _
          go_wp2_with fail
          exact ⟨⟨j + 1, by have := HJ.out; omega, by go_num, HB.out.trans ((HW1.out.2.1.trans (HB2.out.mono HW1.out.2.1.size)).mono HB.out.size), by show sideT f (ps[j]?) _ = R; rw [HQ.out]; exact HNX.out⟩, by have := HJ.out; simp [intOf]; omega⟩
        · obtain ⟨m, hm⟩ : ∃ m, j = m + 1 := ⟨j - 1, by omega⟩
          obtain ⟨x, hx⟩ : ∃ x, ps[m]? = some x := ⟨_, List.getElem?_eq_getElem (by have := HN.out; have := HJ.out; omega)⟩
          obtain ⟨v, hsp, hv⟩ := HAT.out m x hx
          have hsp := hsp.below HB.out
          obtain ⟨xp, xc, rfl, -, -⟩ := hv.is
          obtain ⟨b', o', hbo, hc⟩ := hsp
          obtain ⟨rfl, rfl⟩ : b = b' ∧ o = o' := by
            simp only [Option.some.injEq, Addr.mk.injEq, and_true] at hbo
            exact hbo
          obtain ⟨kx, tx', ox, wx, qx⟩ := x
          obtain ⟨xl, hxl⟩ : ∃ xl, wx.length = xl := ⟨_, rfl⟩
          obtain ⟨sx, hsx⟩ : ∃ s, T tx' = s := ⟨_, rfl⟩
          obtain ⟨sx2, hsx2⟩ : ∃ s, T ox = s := ⟨_, rfl⟩
          have e0 : wr.cell? ⟨b, o + m * 5, none⟩ = some (.int .i64 kx) := hc 0 _ rfl
          have e1 : wr.cell? ⟨b, o + m * 5 + 1, none⟩ = some (.string sx) := by rw [← hsx]; exact hc 1 _ rfl
          have e2 : wr.cell? ⟨b, o + m * 5 + 2, none⟩ = some (.string sx2) := by rw [← hsx2]; exact hc 2 _ rfl
          have e3 : wr.cell? ⟨b, o + m * 5 + 3, none⟩ = some (.slice xp xl xc) := by rw [← hxl]; exact hc 3 _ rfl
          have e4 : wr.cell? ⟨b, o + m * 5 + 4, none⟩ = some (.bool qx) := hc 4 _ rfl
          have HXD := Lib.hid (show ∀ W W' : World, (W.cell? ⟨b, o + m * 5, none⟩ = some (.int .i64 kx) ∧ W.cell? ⟨b, o + m * 5 + 1, none⟩ = some (.string sx) ∧ W.cell? ⟨b, o + m * 5 + 2, none⟩ = some (.string sx2) ∧ W.cell? ⟨b, o + m * 5 + 3, none⟩ = some (.slice xp xl xc) ∧ W.cell? ⟨b, o + m * 5 + 4, none⟩ = some (.bool qx)) → Below W.heap.size W W' →
              W'.cell? ⟨b, o + m * 5, none⟩ = some (.int .i64 kx) ∧ W'.cell? ⟨b, o + m * 5 + 1, none⟩ = some (.string sx) ∧ W'.cell? ⟨b, o + m * 5 + 2, none⟩ = some (.string sx2) ∧ W'.cell? ⟨b, o + m * 5 + 3, none⟩ = some (.slice xp xl xc) ∧ W'.cell? ⟨b, o + m * 5 + 4, none⟩ = some (.bool qx) from fun W W' ⟨h0, h1, h2, h3, h4⟩ hb =>
            have lt : ∀ {a : Addr} {v : Value}, W.cell? a = some v → a.block < W.heap.size := fun h => World.block_lt_of_cell? W _ h
            ⟨(hb.cell (lt h0)).trans h0, (hb.cell (lt h1)).trans h1, (hb.cell (lt h2)).trans h2, (hb.cell (lt h3)).trans h3, (hb.cell (lt h4)).trans h4⟩)
          have hx1 := HXD.out wr w1 ⟨e0, e1, e2, e3, e4⟩ HW1.out.2.1
          have HXC := Lib.hid (fun w2 hb => HXD.out w1 w2 hx1 hb)
          obtain ⟨O, hO⟩ : ∃ O, oneT ⟨kx, tx', ox, wx, qx⟩ ⟨kd, tx, op, wd, qq⟩ = O := ⟨_, rfl⟩
          have HO := Lib.hid (show ∀ W, Calls Tryd.prog 36 #[.agg #[.int .i64 kx, .string sx, .string sx2, .slice xp xl xc, .bool qx], .agg #[.int .i64 kd, .string s, .string s2, .slice up ul uc, .bool qq]] W fun e w' => e = .returned (.bool O) ∧ Below W.heap.size W w' from fun W => by
            rw [← hO, ← hsx, ← hsx2, ← HSS.out.1, ← HSS.out.2]
            exact isOne_any ⟨kx, tx', ox, wx, qx⟩ ⟨kd, tx, op, wd, qq⟩ (.slice xp xl xc) (.slice up ul uc) W)
          have HSO := Lib.hid (show (!O && sideT f (some ⟨kd, tx, op, wd, qq⟩) (ps.drop (j + 1))) = R from by
            have := HSD.out
            rw [hm] at this ⊢
            rw [show prevO ps (m + 1) = ps[m]? from rfl, hx] at this
            rw [← hO]
            exact this)
          have hji : decide (0 < j) = true := decide_eq_true (by omega)
          have hwr : IntKind.i64.wrap ((j : Int) - 1) = (m : Int) := by
            have e : (m : Int) = (j : Int) - 1 := by omega
            rw [e]; exact IntWalk.i64_in _ ⟨by omega, by omega⟩
          have hm0 : (0 : Int) ≤ (m : Int) := by omega
          have hmn : (m : Int) < (N : Int) := by omega
          clear e0 e1 e2 e3 e4 hc hbo hx hv hsx hsx2 hO hm hj hxl
          obtain ⟨e0, e1, e2, e3, e4⟩ := hx1
          go_wp2_with fail
          rw [HW1.out.1]
          obtain ⟨d0, d1, d2, d3, d4⟩ := HW1.out.2.2
          refine wp_region_held_drew (S := (fun W => (W.cell? ⟨wr.heap.size, 0, none⟩ = some (.int .i64 kd) ∧ W.cell? ⟨wr.heap.size, 1, none⟩ = some (.string s) ∧ W.cell? ⟨wr.heap.size, 2, none⟩ = some (.string s2) ∧ W.cell? ⟨wr.heap.size, 3, none⟩ = some (.slice up ul uc) ∧ W.cell? ⟨wr.heap.size, 4, none⟩ = some (.bool qq)) ∧ W.cell? ⟨b, o + m * 5, none⟩ = some (.int .i64 kx) ∧ W.cell? ⟨b, o + m * 5 + 1, none⟩ = some (.string sx) ∧ W.cell? ⟨b, o + m * 5 + 2, none⟩ = some (.string sx2) ∧ W.cell? ⟨b, o + m * 5 + 3, none⟩ = some (.slice xp xl xc) ∧ W.cell? ⟨b, o + m * 5 + 4, none⟩ = some (.bool qx))) (by kernel_rfl) ?_ (fun hHeld => ?_)
          · exact ⟨HW1.out.2.2, e0, e1, e2, e3, e4⟩
          refine takeW (i := 0) (k := 16) (v := ?_) rfl (by kernel_rfl) (by kernel_rfl) (by kernel_rfl) (by kernel_rfl) (fun _ _ _ h => h) (by rfl) ?_ (by assumption) ?_
          rotate_left
          · intro w hSw; (try dsimp only at hSw); go_simp <;> (with_reducible rfl)
          simp only [List.setIfInBounds_toArray, List.set_cons_zero, List.set_cons_succ]
          refine takeW (i := 1) (k := 17) (v := ?_) rfl (by kernel_rfl) (by kernel_rfl) (by kernel_rfl) (by kernel_rfl) (fun _ _ _ h => h) (by rfl) ?_ (by assumption) ?_
          rotate_left
          · intro w hSw; (try dsimp only at hSw); go_simp <;> (with_reducible rfl)
          simp only [List.setIfInBounds_toArray, List.set_cons_zero, List.set_cons_succ]
          refine wpAnyH_ready (rs := [2]) (by kernel_rfl) (by simp) ?_
          refine AllReadyH.cons rfl (fun K hK => ?_) ?_
          rotate_left
          · exact AllReadyH.nil
          go_simp
          go_wp2_with ((go_at_call 35; refine HPQ.out.mono ?_; rintro e w2 ⟨rfl, hb⟩; have HB2 := Lib.hid hb; have HPC := Lib.hid (And.intro (HW1.out.2.2.below hb) (HXC.out w2 hb)); clear hb))
          refine hK.out _ _ ?_ (fun hHeld => ?_)
          · exact HPC.out
          clear hK K
          refine takeW (i := 3) (k := 19) (v := ?_) rfl (by kernel_rfl) (by kernel_rfl) (by kernel_rfl) (by kernel_rfl) (fun _ _ _ h => h) (by rfl) ?_ (by assumption) ?_
          rotate_left
          · intro w hSw; (try dsimp only at hSw); go_simp <;> (with_reducible rfl)
          simp only [List.setIfInBounds_toArray, List.set_cons_zero, List.set_cons_succ]
          refine takeW (i := 4) (k := 20) (v := ?_) rfl (by kernel_rfl) (by kernel_rfl) (by kernel_rfl) (by kernel_rfl) (fun _ _ _ h => h) (by rfl) ?_ (by assumption) ?_
          rotate_left
          · intro w hSw; (try dsimp only at hSw); go_simp <;> (with_reducible rfl)
          simp only [List.setIfInBounds_toArray, List.set_cons_zero, List.set_cons_succ]
          refine takeW (i := 5) (k := 21) (v := ?_) rfl (by kernel_rfl) (by kernel_rfl) (by kernel_rfl) (by kernel_rfl) (fun _ _ _ h => h) (by rfl) ?_ (by assumption) ?_
          rotate_left
          · intro w hSw; (try dsimp only at hSw); go_simp <;> (with_reducible rfl)
          simp only [List.setIfInBounds_toArray, List.set_cons_zero, List.set_cons_succ]
          refine takeW (i := 6) (k := 22) (v := ?_) rfl (by kernel_rfl) (by kernel_rfl) (by kernel_rfl) (by kernel_rfl) (fun _ _ _ h => h) (by rfl) ?_ (by assumption) ?_
          rotate_left
          · intro w hSw; (try dsimp only at hSw); go_simp <;> (with_reducible rfl)
          simp only [List.setIfInBounds_toArray, List.set_cons_zero, List.set_cons_succ]
          refine takeW (i := 7) (k := 23) (v := ?_) rfl (by kernel_rfl) (by kernel_rfl) (by kernel_rfl) (by kernel_rfl) (fun _ _ _ h => h) (by rfl) ?_ (by assumption) ?_
          rotate_left
          · intro w hSw; (try dsimp only at hSw); go_simp <;> (with_reducible rfl)
          simp only [List.setIfInBounds_toArray, List.set_cons_zero, List.set_cons_succ]
          refine takeW (i := 8) (k := 24) (v := ?_) rfl (by kernel_rfl) (by kernel_rfl) (by kernel_rfl) (by kernel_rfl) (fun _ _ _ h => h) (by rfl) ?_ (by assumption) ?_
          rotate_left
          · intro w hSw; (try dsimp only at hSw); go_simp <;> (with_reducible rfl)
          simp only [List.setIfInBounds_toArray, List.set_cons_zero, List.set_cons_succ]
          refine takeW (i := 9) (k := 25) (v := ?_) rfl (by kernel_rfl) (by kernel_rfl) (by kernel_rfl) (by kernel_rfl) (fun _ _ _ h => h) (by rfl) ?_ (by assumption) ?_
          rotate_left
          · intro w hSw; (try dsimp only at hSw); go_simp <;> (with_reducible rfl)
          simp only [List.setIfInBounds_toArray, List.set_cons_zero, List.set_cons_succ]
          refine takeW (i := 10) (k := 26) (v := ?_) rfl (by kernel_rfl) (by kernel_rfl) (by kernel_rfl) (by kernel_rfl) (fun _ _ _ h => h) (by rfl) ?_ (by assumption) ?_
          rotate_left
          · intro w hSw; (try dsimp only at hSw); go_simp <;> (with_reducible rfl)
          simp only [List.setIfInBounds_toArray, List.set_cons_zero, List.set_cons_succ]
          refine takeW (i := 11) (k := 27) (v := ?_) rfl (by kernel_rfl) (by kernel_rfl) (by kernel_rfl) (by kernel_rfl) (fun _ _ _ h => h) (by rfl) ?_ (by assumption) ?_
          rotate_left
          · intro w hSw; (try dsimp only at hSw); go_simp <;> (with_reducible rfl)
          simp only [List.setIfInBounds_toArray, List.set_cons_zero, List.set_cons_succ]
          refine takeW (i := 12) (k := 28) (v := ?_) rfl (by kernel_rfl) (by kernel_rfl) (by kernel_rfl) (by kernel_rfl) (fun _ _ _ h => h) (by rfl) ?_ (by assumption) ?_
          rotate_left
          · intro w hSw; (try dsimp only at hSw); go_simp <;> (with_reducible rfl)
          simp only [List.setIfInBounds_toArray, List.set_cons_zero, List.set_cons_succ]
          refine takeW (i := 13) (k := 29) (v := ?_) rfl (by kernel_rfl) (by kernel_rfl) (by kernel_rfl) (by kernel_rfl) (fun _ _ _ h => h) (by rfl) ?_ (by assumption) ?_
          rotate_left
          · intro w hSw; (try dsimp only at hSw); go_simp <;> (with_reducible rfl)
          simp only [List.setIfInBounds_toArray, List.set_cons_zero, List.set_cons_succ]
          refine wpAnyH_ready (rs := [14]) (by kernel_rfl) (by simp) ?_
          refine AllReadyH.cons rfl (fun K hK => ?_) ?_
          rotate_left
          · exact AllReadyH.nil
          go_simp
          go_wp2_with ((go_at_call 36; refine (HO.out _).mono ?_; rintro e w3 ⟨rfl, hb⟩; have HB3 := Lib.hid (HB2.out.trans (hb.mono HB2.out.size)); have HPC3 := Lib.hid (And.intro (PC.below HPC.out.1 hb) (HXD.out w2 w3 HPC.out.2 hb)); clear hb))
          refine hK.out _ _ ?_ (fun hHeld => ?_)
          · exact HPC3.out
          clear hK K
          refine takeW (i := 15) (k := 31) (v := ?_) rfl (by kernel_rfl) (by kernel_rfl) (by kernel_rfl) (by kernel_rfl) (fun _ _ _ h => h) (by rfl) ?_ (by assumption) ?_
          rotate_left
          · intro w hSw; (try dsimp only at hSw); go_simp <;> (with_reducible rfl)
          simp only [List.setIfInBounds_toArray, List.set_cons_zero, List.set_cons_succ]
          refine takeW (i := 16) (k := 32) (v := ?_) rfl (by kernel_rfl) (by kernel_rfl) (by kernel_rfl) (by kernel_rfl) (fun _ _ _ h => h) (by rfl) ?_ (by assumption) ?_
          rotate_left
          · intro w hSw; (try dsimp only at hSw); go_simp <;> (with_reducible rfl)
          simp only [List.setIfInBounds_toArray, List.set_cons_zero, List.set_cons_succ]
          refine wpAnyH_done (by kernel_rfl) ?_ _
          cases O
          · have HNX := Lib.hid (show sideT f (some ⟨kd, tx, op, wd, qq⟩) (ps.drop (j + 1)) = R from HSO.out)
            go_wp2_with fail
            exact ⟨⟨j + 1, by have := HJ.out; omega, by go_num, HB.out.trans ((HW1.out.2.1.trans (HB3.out.mono HW1.out.2.1.size)).mono HB.out.size), by show sideT f (ps[j]?) _ = R; rw [HQ.out]; exact HNX.out⟩, by have := HJ.out; simp [intOf]; omega⟩
          · go_wp2_with fail
            go_ret
            exact ⟨ret_bool HSO.out, HB.out.trans ((HW1.out.2.1.trans (HB3.out.mono HW1.out.2.1.size)).mono HB.out.size)⟩
    · obtain rfl : j = N := by omega
      have hj0 : ¬ (j : Int) < (j : Int) := by omega
      rw [List.drop_of_length_le (by rw [HN.out]; exact Nat.le_refl _)] at hsd
      have HE := Lib.hid (show true = R from by rw [← hsd]; cases prevO ps j <;> rfl)
      have HB := Lib.hid hb
      clear hsd hb hlt hj
      go_wp2_with fail
      go_ret
      exact ⟨ret_bool HE.out, HB.out⟩
/-- Row, so deep. -/
theorem row_any : ∀ (k d : Nat), k + d = 21 → RowDo k d
  | 0, d, h => by
    intro ps v w hv _
    obtain ⟨p, c, rfl, -, -⟩ := hv.is
    obtain rfl : d = 21 := by omega
    rw [show rowT 0 ps = false from rfl]
    clear hv h
    go_enter Tryd.func19, Tryd.ntmps19
    go_wp2_with fail
    go_ret
    exact ⟨rfl, Below.refl _ _⟩
  | k + 1, d, h => row_next (by omega) (row_any k (d + 1) (by omega))
end Go.Proofs.YtloaalapkmbgeaaDoor
