/-
  Proved: the walk of the law EnvPlays: it answers true and changes nothing that was there. Conditions: the arguments lie in memory as the row says.
-/
import Derived.Test.YtbbopbbnhkcfdaaEnAct
import Derived.Test.YtbbopbbnhkcfdaaEnLast
import Derived.Deep.CutRange
import Derived.Deep.DeepCutAuto
import Derived.Deep.CutBlock
namespace Go.Proofs.Ytbbopbbnhkcfdaa
open Go Go.RowKit EnMath

set_option maxHeartbeats 8000000 in
set_option maxRecDepth 10000 in
theorem plays_ord {E0 : Ev} {l : List Ac} (p1 p2 p3 pl : Option Addr) (c1 c2 c3 cl : Nat) (w : World) (h : EnvAt w (.agg #[.slice p1 E0.vars.length c1, .slice p2 E0.args.length c2, .slice p3 E0.funs.length c3]) E0) (hl : Rd 4 aC w (.slice pl l.length cl) l) (hn : l.length ≤ 60) (hv : E0.vars.length ≤ 30) (hf : E0.funs.length ≤ 30) (ha : E0.args.length * 16 ≤ 140737488355328) (hov : Ordd E0.vars) (hof : Ordd E0.funs) :
    Calls Try.prog 3 #[.agg #[.slice p1 E0.vars.length c1, .slice p2 E0.args.length c2, .slice p3 E0.funs.length c3], .slice pl l.length cl] w fun e w' => e = .returned (.bool true) ∧ Below w.heap.size w w' := by
  obtain ⟨W2, hW2⟩ : ∃ W, w.alloc (.cells #[.slice p1 E0.vars.length c1, .slice p2 E0.args.length c2, .slice p3 E0.funs.length c3] 26) = W := ⟨_, rfl⟩
  have hb : Below w.heap.size w W2 := by rw [← hW2]; exact en_alloc (Below.refl _ w) _
  have hX : W2.heap[w.heap.size]? = some (.cells #[.slice p1 E0.vars.length c1, .slice p2 E0.args.length c2, .slice p3 E0.funs.length c3] 26 (0, 0)) := by rw [← hW2]; exact heap_alloc_new w _
  have hXl : w.heap.size < W2.heap.size := (Array.getElem?_eq_some_iff.1 hX).1
  have HV2 := Lib.hid (show Vr W2 w.heap.size E0 by rw [← hW2]; exact Vr.new h rfl)
  have HK := Lib.hid (fun (W : World) (hW : Below W2.heap.size W2 W) => (show W.cell? ⟨w.heap.size, 0, none⟩ = some (.slice p1 E0.vars.length c1) ∧ W.cell? ⟨w.heap.size, 1, none⟩ = some (.slice p2 E0.args.length c2) ∧ W.cell? ⟨w.heap.size, 2, none⟩ = some (.slice p3 E0.funs.length c3) from
    ⟨cell_of_row W _ 0 _ _ _ ((hW.block _ hXl).trans hX), cell_of_row W _ 1 _ _ _ ((hW.block _ hXl).trans hX), cell_of_row W _ 2 _ _ _ ((hW.block _ hXl).trans hX)⟩))
  have HE2 := Lib.hid (h.below hb (Nat.le_refl _))
  have HRI := Lib.hid (ris_any _ W2 (h.below hb (Nat.le_refl _)) (by omega) (by omega))
  rw [isO_iff.2 hov, isO_iff.2 hof, Bool.and_self] at HRI
  have HB2 := Lib.hid hb
  have HL := Lib.hid hl
  have HF0 := Lib.hid (show Fine E0 0 from ⟨hov, hof, by omega, by omega, ha⟩)
  obtain ⟨N1, hN1⟩ : ∃ N, E0.vars.length = N := ⟨_, rfl⟩
  obtain ⟨N2, hN2⟩ : ∃ N, E0.args.length = N := ⟨_, rfl⟩
  obtain ⟨N3, hN3⟩ : ∃ N, E0.funs.length = N := ⟨_, rfl⟩
  obtain ⟨NL, hNL⟩ : ∃ N, l.length = N := ⟨_, rfl⟩
  have HNL := Lib.hid hNL
  rw [hN1] at hW2 HK HE2 HRI hv
  rw [hN2] at hW2 HK HE2 HRI
  rw [hN3] at hW2 HK HE2 HRI hf
  rw [hNL] at hn
  rw [hN1, hN2, hN3, hNL]
  obtain ⟨k0, k1, k2⟩ := HK.out W2 (Below.refl _ _)
  have g1 : (N1 : Int) ≤ 30 := by omega
  have g3 : (N3 : Int) ≤ 30 := by omega
  have gl : (NL : Int) ≤ 60 := by omega
  clear h hb hX hXl hl ha hov hof hN1 hN2 hN3 hNL
  go_enter Try.func3, Try.ntmps3
  go_upto_region 6 with (first
    | (rw [hW2]; clear hW2)
    | (go_at_call 6; (refine HRI.out.mono ?_); rintro e w3 ⟨rfl, hb3⟩; obtain ⟨k0, k1, k2⟩ := HK.out w3 hb3; have HB3 := Lib.hid hb3; clear hb3))
  obtain ⟨W4, hW4⟩ : ∃ W, w3.alloc (.cells #[.slice p1 N1 c1, .slice p2 N2 c2, .slice p3 N3 c3] 26) = W := ⟨_, rfl⟩
  have V2 := Lib.hid (show Vr W4 w.heap.size E0 by rw [← hW4]; exact (HV2.out.below HB3.out).below ((Below.refl _ w3).alloc (Nat.le_refl _) _))
  have V5 := Lib.hid (show Vr W4 w3.heap.size E0 by rw [← hW4]; exact Vr.new (HE2.out.below HB3.out (Nat.le_refl _)) rfl)
  have B4 := Lib.hid (show Below w.heap.size w W4 by rw [← hW4]; exact en_alloc (en_trans HB2.out HB3.out) _)
  obtain ⟨X5, hX5⟩ : ∃ X, w3.heap.size = X := ⟨_, rfl⟩
  have HX := Lib.hid (show w.heap.size < X5 by rw [← hX5]; exact Nat.lt_of_lt_of_le HV2.out.lt HB3.out.size)
  rw [hX5] at V5
  rw [hW4, hX5]
  clear hW4 hX5 HB3 HB2 HE2 HRI HK HV2 k0 k1 k2 g1 g3 hv hf
  go_wp2_with fail
  go_loopw [6] (fun v wr => ∃ (k : Nat) (E : Ev), v = .int .i64 (k : Int) ∧ k ≤ NL ∧ Fine E k ∧ Vr wr w.heap.size E ∧ Vr wr X5 E ∧ Below w.heap.size w wr) (fun v _ => NL - (intOf v).toNat)
  case atStart => exact ⟨0, E0, rfl, by omega, HF0.out, V2.out, V5.out, B4.out⟩
  case round =>
    obtain ⟨k, E, rfl, hk, hfi, hv2, hv5, hbw⟩ := hrel
    have HFI := Lib.hid hfi
    have HW := Lib.hid hbw
    have H2 := Lib.hid hv2
    have H5 := Lib.hid hv5
    have hk0 : (0 : Int) ≤ (k : Int) := by omega
    have hk9 : (k : Int) ≤ 60 := by omega
    clear hfi hv2 hv5 hbw V2 V5 B4 HF0
    by_cases hlt : k < NL
    · obtain ⟨a, hx⟩ : ∃ a, l[k]? = some a := ⟨_, List.getElem?_eq_getElem (by rw [HNL.out]; omega)⟩
      obtain ⟨b0, o0, rfl, hcc⟩ := HL.out.get hx
      have hbl := World.block_lt_of_cell? w _ (hcc k a hx 0 _ rfl)
      have e0 := (World.cell?_of_block (HW.out.block b0 hbl)).trans (hcc k a hx 0 _ rfl)
      have e1 := (World.cell?_of_block (HW.out.block b0 hbl)).trans (hcc k a hx 1 _ rfl)
      have e2 := (World.cell?_of_block (HW.out.block b0 hbl)).trans (hcc k a hx 2 _ rfl)
      have e3 := (World.cell?_of_block (HW.out.block b0 hbl)).trans (hcc k a hx 3 _ rfl)
      rw [Nat.add_zero] at e0
      have hI : (k : Int) < (NL : Int) := by omega
      obtain ⟨WA, hWA⟩ : ∃ W, wr.alloc (.cells #[.int .i64 a.kind, .string a.name, .string a.value, .int .i64 a.n] 31) = W := ⟨_, rfl⟩
      have hbA : Below wr.heap.size wr WA := by rw [← hWA]; exact (Below.refl _ wr).alloc (Nat.le_refl _) _
      have A0 := Lib.hid (show AcAt WA wr.heap.size a by rw [← hWA]; exact heap_alloc_new wr _)
      have VA2 := Lib.hid (H2.out.below hbA)
      have VA5 := Lib.hid (H5.out.below hbA)
      have BA := Lib.hid (HW.out.trans (hbA.mono HW.out.size))
      obtain ⟨XA, hXA⟩ : ∃ X, wr.heap.size = X := ⟨_, rfl⟩
      have HXA := Lib.hid (show w.heap.size < XA ∧ X5 < XA by rw [← hXA]; exact ⟨H2.out.lt, H5.out.lt⟩)
      rw [hXA] at A0
      clear hcc hbl hx
      go_upto_region 10 with fail
      clear hWA hXA hbA H2 H5 HW e0 e1 e2 e3 hlt
      obtain ⟨a0, a1, a2, a3⟩ := A0.out.cells
      go_upto_block 2 with fail
      have HST := Lib.hid (HFI.out.step a)
      obtain ⟨E', hE'⟩ : ∃ E', stepM E a = E' := ⟨_, rfl⟩
      rw [hE'] at HST
      have HE' := Lib.hid hE'
      clear hE'
      go_cut [7] from 45 to 175 (fun v7 wx => v7 = .pointer (some ⟨XA, 0, none⟩) ∧ Fine E' (k + 1) ∧ Vr wx w.heap.size E' ∧ Vr wx X5 E' ∧ AcAt wx XA a ∧ Below w.heap.size w wx)
      case first =>
        by_cases hkd : a.kind = 1
        · rw [hkd] at a0
          have hstep : { E with vars := setM E.vars a.name a.value } = E' := by rw [← HE'.out]; unfold stepM; simp [hkd]
          subst hstep
          obtain ⟨x1, m1, d1, x2, m2, d2, x3, m3, d3, ⟨k0, k1, k2⟩, -, ex⟩ := VA2.out.cells
          obtain ⟨y1, n1, i1, y2, n2, i2, y3, n3, i3, ⟨k3, k4, k5⟩, -, ey⟩ := VA5.out.cells
          have HS := Lib.hid (fun (W : World) (hW : Below WA.heap.size WA W) => (show (fun V => (V.cell? ⟨w.heap.size, 0, none⟩ = some (.slice x1 m1 d1) ∧ V.cell? ⟨w.heap.size, 1, none⟩ = some (.slice x2 m2 d2) ∧ V.cell? ⟨w.heap.size, 2, none⟩ = some (.slice x3 m3 d3)) ∧ (V.cell? ⟨X5, 0, none⟩ = some (.slice y1 n1 i1) ∧ V.cell? ⟨X5, 1, none⟩ = some (.slice y2 n2 i2) ∧ V.cell? ⟨X5, 2, none⟩ = some (.slice y3 n3 i3)) ∧ (V.cell? ⟨XA, 1, none⟩ = some (.string a.name) ∧ V.cell? ⟨XA, 2, none⟩ = some (.string a.value) ∧ V.cell? ⟨XA, 3, none⟩ = some (.int .i64 a.n))) W from ⟨⟨(hW.cell (p := ⟨w.heap.size, 0, none⟩) VA2.out.lt).trans k0, (hW.cell (p := ⟨w.heap.size, 1, none⟩) VA2.out.lt).trans k1, (hW.cell (p := ⟨w.heap.size, 2, none⟩) VA2.out.lt).trans k2⟩, ⟨(hW.cell (p := ⟨X5, 0, none⟩) VA5.out.lt).trans k3, (hW.cell (p := ⟨X5, 1, none⟩) VA5.out.lt).trans k4, (hW.cell (p := ⟨X5, 2, none⟩) VA5.out.lt).trans k5⟩, (hW.cell (p := ⟨XA, 1, none⟩) A0.out.lt).trans a1, (hW.cell (p := ⟨XA, 2, none⟩) A0.out.lt).trans a2, (hW.cell (p := ⟨XA, 3, none⟩) A0.out.lt).trans a3⟩))
          have hfit := HFI.out.fit (show k ≤ 100 by omega)
          have HC1 := Lib.hid (set_any a.name a.value _ WA.drew (ex.below (Below.refl _ WA).drew (Nat.le_refl _)) hfit HFI.out.vars)
          have HC2 := Lib.hid (fun (W : World) (hW : Below WA.heap.size WA W) => (rset_any a.name a.value _ W (ey.below hW (Nat.le_refl _)) hfit.1))
          clear hfit k0 k1 k2 k3 k4 k5 a1 a2 a3 ex ey
          go_upto_region 12 with fail
          refine regionL (S := fun V => (V.cell? ⟨w.heap.size, 0, none⟩ = some (.slice x1 m1 d1) ∧ V.cell? ⟨w.heap.size, 1, none⟩ = some (.slice x2 m2 d2) ∧ V.cell? ⟨w.heap.size, 2, none⟩ = some (.slice x3 m3 d3)) ∧ (V.cell? ⟨X5, 0, none⟩ = some (.slice y1 n1 i1) ∧ V.cell? ⟨X5, 1, none⟩ = some (.slice y2 n2 i2) ∧ V.cell? ⟨X5, 2, none⟩ = some (.slice y3 n3 i3)) ∧ (V.cell? ⟨XA, 1, none⟩ = some (.string a.name) ∧ V.cell? ⟨XA, 2, none⟩ = some (.string a.value) ∧ V.cell? ⟨XA, 3, none⟩ = some (.int .i64 a.n))) (L := 12) (by kernel_rfl) ?_ (fun hHeld => ?_)
          · exact HS.out WA.drew (Below.refl _ _).drew
          refine takeL (i := 0) (k := 59) (v := ?_) rfl (by kernel_rfl) (by kernel_rfl) (by kernel_rfl) (by kernel_rfl) (fun _ _ _ h => h) (by kernel_rfl) (by kernel_rfl) (by kernel_rfl) (by rfl) ?_ (by assumption) ?_
          rotate_left
          · intro w hSw; (try dsimp only at hSw); go_simp <;> (with_reducible rfl)
          simp only [List.setIfInBounds_toArray, List.set_cons_zero, List.set_cons_succ]
          refine takeL (i := 1) (k := 60) (v := ?_) rfl (by kernel_rfl) (by kernel_rfl) (by kernel_rfl) (by kernel_rfl) (fun _ _ _ h => h) (by kernel_rfl) (by kernel_rfl) (by kernel_rfl) (by rfl) ?_ (by assumption) ?_
          rotate_left
          · intro w hSw; (try dsimp only at hSw); go_simp <;> (with_reducible rfl)
          simp only [List.setIfInBounds_toArray, List.set_cons_zero, List.set_cons_succ]
          refine takeL (i := 2) (k := 61) (v := ?_) rfl (by kernel_rfl) (by kernel_rfl) (by kernel_rfl) (by kernel_rfl) (fun _ _ _ h => h) (by kernel_rfl) (by kernel_rfl) (by kernel_rfl) (by rfl) ?_ (by assumption) ?_
          rotate_left
          · intro w hSw; (try dsimp only at hSw); go_simp <;> (with_reducible rfl)
          simp only [List.setIfInBounds_toArray, List.set_cons_zero, List.set_cons_succ]
          refine takeL (i := 3) (k := 62) (v := ?_) rfl (by kernel_rfl) (by kernel_rfl) (by kernel_rfl) (by kernel_rfl) (fun _ _ _ h => h) (by kernel_rfl) (by kernel_rfl) (by kernel_rfl) (by rfl) ?_ (by assumption) ?_
          rotate_left
          · intro w hSw; (try dsimp only at hSw); go_simp <;> (with_reducible rfl)
          simp only [List.setIfInBounds_toArray, List.set_cons_zero, List.set_cons_succ]
          refine takeL (i := 4) (k := 63) (v := ?_) rfl (by kernel_rfl) (by kernel_rfl) (by kernel_rfl) (by kernel_rfl) (fun _ _ _ h => h) (by kernel_rfl) (by kernel_rfl) (by kernel_rfl) (by rfl) ?_ (by assumption) ?_
          rotate_left
          · intro w hSw; (try dsimp only at hSw); go_simp <;> (with_reducible rfl)
          simp only [List.setIfInBounds_toArray, List.set_cons_zero, List.set_cons_succ]
          refine takeM (i := 6) (k := 65) [11] (v := ?_) rfl (by kernel_rfl) (by kernel_rfl) (by kernel_rfl) (by kernel_rfl) (fun _ _ _ h => h) (by kernel_rfl) (by kernel_rfl) (by kernel_rfl) (by kernel_rfl) (by kernel_rfl) (by rfl) ?_ (by assumption) ?_
          rotate_left
          · intro w hSw; (try dsimp only at hSw); go_simp <;> (with_reducible rfl)
          simp only [List.setIfInBounds_toArray, List.set_cons_zero, List.set_cons_succ]
          refine takeM (i := 7) (k := 66) [8, 11] (v := ?_) rfl (by kernel_rfl) (by kernel_rfl) (by kernel_rfl) (by kernel_rfl) (fun _ _ _ h => h) (by kernel_rfl) (by kernel_rfl) (by kernel_rfl) (by kernel_rfl) (by kernel_rfl) (by rfl) ?_ (by assumption) ?_
          rotate_left
          · intro w hSw; (try dsimp only at hSw); go_simp <;> (with_reducible rfl)
          simp only [List.setIfInBounds_toArray, List.set_cons_zero, List.set_cons_succ]
          refine takeM (i := 8) (k := 67) [11] (v := ?_) rfl (by kernel_rfl) (by kernel_rfl) (by kernel_rfl) (by kernel_rfl) (fun _ _ _ h => h) (by kernel_rfl) (by kernel_rfl) (by kernel_rfl) (by kernel_rfl) (by kernel_rfl) (by rfl) ?_ (by assumption) ?_
          rotate_left
          · intro w hSw; (try dsimp only at hSw); go_simp <;> (with_reducible rfl)
          simp only [List.setIfInBounds_toArray, List.set_cons_zero, List.set_cons_succ]
          refine takeM (i := 9) (k := 68) [10, 11] (v := ?_) rfl (by kernel_rfl) (by kernel_rfl) (by kernel_rfl) (by kernel_rfl) (fun _ _ _ h => h) (by kernel_rfl) (by kernel_rfl) (by kernel_rfl) (by kernel_rfl) (by kernel_rfl) (by rfl) ?_ (by assumption) ?_
          rotate_left
          · intro w hSw; (try dsimp only at hSw); go_simp <;> (with_reducible rfl)
          simp only [List.setIfInBounds_toArray, List.set_cons_zero, List.set_cons_succ]
          refine takeM (i := 10) (k := 69) [11] (v := ?_) rfl (by kernel_rfl) (by kernel_rfl) (by kernel_rfl) (by kernel_rfl) (fun _ _ _ h => h) (by kernel_rfl) (by kernel_rfl) (by kernel_rfl) (by kernel_rfl) (by kernel_rfl) (by rfl) ?_ (by assumption) ?_
          rotate_left
          · intro w hSw; (try dsimp only at hSw); go_simp <;> (with_reducible rfl)
          simp only [List.setIfInBounds_toArray, List.set_cons_zero, List.set_cons_succ]
          clear hHeld
          refine nextL (i := 5) (by kernel_rfl) rfl (by kernel_rfl) (fun K hK => ?_)
          go_simp
          go_wp2_with (go_at_call 9; (refine HC1.out.mono ?_); rintro e w5 ⟨v5, rfl, he, hb⟩; obtain ⟨g1, s1, h1, g2, s2, h2, g3, s3, h3, rfl⟩ := he.bare; have E5 := Lib.hid he; have B5 := Lib.hid (show Below WA.heap.size WA w5 from (Below.refl _ WA).drew.trans hb); clear he hb HC1)
          refine hK.out _ _ ?_ ?_
          · exact .inr (HS.out _ B5.out)
          clear hK K
          refine nextL (i := 11) (by kernel_rfl) rfl (by kernel_rfl) (fun K hK => ?_)
          go_simp
          go_wp2_with (go_at_call 10; (refine (HC2.out w5 B5.out).mono ?_); rintro e w6 ⟨v6, rfl, he, hb⟩; obtain ⟨j1, t1, l1, j2, t2, l2, j3, t3, l3, rfl⟩ := he.bare; have E6 := Lib.hid he; have E56 := Lib.hid (E5.out.below hb (Nat.le_refl _)); have B6 := Lib.hid (en_trans B5.out hb); clear he hb HC2)
          refine hK.out _ _ ?_ ?_
          · exact .inr (HS.out _ B6.out)
          clear hK K
          have V26 := Lib.hid (VA2.out.below B6.out)
          have V56 := Lib.hid (VA5.out.below B6.out)
          have A6 := Lib.hid (A0.out.below B6.out)
          obtain ⟨_, _, _, _, _, _, _, _, _, ⟨c0, c1, c2⟩, ⟨z0, z1, z2⟩, -⟩ := V26.out.cells
          refine nextL (i := 12) (by kernel_rfl) rfl (by kernel_rfl) (fun K hK => ?_)
          go_simp
          refine hK.out _ _ ?_ ?_
          · exact .inl (by kernel_rfl)
          clear hK K
          have hne : w.heap.size ≠ X5 := Nat.ne_of_lt HX.out
          have hneA : XA ≠ w.heap.size := Nat.ne_of_gt HXA.out.1
          have hneB : XA ≠ X5 := Nat.ne_of_gt HXA.out.2
          have V27 := V26.out.put E56.out
          have V57 := V26.out.far V56.out hne (.slice g1 s1 h1) (.slice g2 s2 h2) (.slice g3 s3 h3)
          obtain ⟨q1, r1, f1, q2, r2, f2, q3, r3, f3, hh1, -⟩ := V26.out
          have E67 := E6.out.put hh1 (.slice g1 s1 h1) (.slice g2 s2 h2) (.slice g3 s3 h3)
          have A7 := A6.out.far hneA (.slice g1 s1 h1) (.slice g2 s2 h2) (.slice g3 s3 h3)
          have B7 := env_set (BA.out.trans (B6.out.mono BA.out.size)) (Nat.le_refl w.heap.size) (.slice g1 s1 h1) (.slice g2 s2 h2) (.slice g3 s3 h3)
          obtain ⟨W7, hW7⟩ : ∃ W, ((w6.setCell ⟨w.heap.size, 0, none⟩ (.slice g1 s1 h1)).setCell ⟨w.heap.size, 1, none⟩ (.slice g2 s2 h2)).setCell ⟨w.heap.size, 2, none⟩ (.slice g3 s3 h3) = W := ⟨_, rfl⟩
          rw [hW7] at V27 V57 E67 A7 B7
          rw [hW7]
          clear hW7 hh1 c0 c1 c2 z0 z1 z2
          obtain ⟨_, _, _, _, _, _, _, _, _, ⟨c0, c1, c2⟩, ⟨z0, z1, z2⟩, -⟩ := V57.cells
          have U7 := Lib.hid (And.intro (V57.put E67) (And.intro (V57.far V27 (Ne.symm hne) (.slice j1 t1 l1) (.slice j2 t2 l2) (.slice j3 t3 l3)) (And.intro (A7.far hneB (.slice j1 t1 l1) (.slice j2 t2 l2) (.slice j3 t3 l3)) (env_set B7 (Nat.le_of_lt HX.out) (.slice j1 t1 l1) (.slice j2 t2 l2) (.slice j3 t3 l3)))))
          clear V27 V57 E67 A7 B7 hne hneA hneB
          refine nextL (i := 13) (by kernel_rfl) rfl (by kernel_rfl) (fun K hK => ?_)
          go_simp
          refine hK.out _ _ ?_ ?_
          · exact .inl (by kernel_rfl)
          clear hK K
          refine doneL (by kernel_rfl) ?_ _
          go_wp2_with fail
          go_meet
          case rel => exact ⟨rfl, HST.out, U7.out.2.1, U7.out.1, U7.out.2.2.1, U7.out.2.2.2⟩
        · by_cases hkd2 : a.kind = 2
          · have hkd := hkd2
            rw [hkd2] at a0
            have hstep : { E with vars := delM E.vars a.name } = E' := by rw [← HE'.out]; unfold stepM; simp [hkd]
            subst hstep
            obtain ⟨x1, m1, d1, x2, m2, d2, x3, m3, d3, ⟨k0, k1, k2⟩, -, ex⟩ := VA2.out.cells
            obtain ⟨y1, n1, i1, y2, n2, i2, y3, n3, i3, ⟨k3, k4, k5⟩, -, ey⟩ := VA5.out.cells
            have HS := Lib.hid (fun (W : World) (hW : Below WA.heap.size WA W) => (show (fun V => (V.cell? ⟨w.heap.size, 0, none⟩ = some (.slice x1 m1 d1) ∧ V.cell? ⟨w.heap.size, 1, none⟩ = some (.slice x2 m2 d2) ∧ V.cell? ⟨w.heap.size, 2, none⟩ = some (.slice x3 m3 d3)) ∧ (V.cell? ⟨X5, 0, none⟩ = some (.slice y1 n1 i1) ∧ V.cell? ⟨X5, 1, none⟩ = some (.slice y2 n2 i2) ∧ V.cell? ⟨X5, 2, none⟩ = some (.slice y3 n3 i3)) ∧ (V.cell? ⟨XA, 1, none⟩ = some (.string a.name) ∧ V.cell? ⟨XA, 2, none⟩ = some (.string a.value) ∧ V.cell? ⟨XA, 3, none⟩ = some (.int .i64 a.n))) W from ⟨⟨(hW.cell (p := ⟨w.heap.size, 0, none⟩) VA2.out.lt).trans k0, (hW.cell (p := ⟨w.heap.size, 1, none⟩) VA2.out.lt).trans k1, (hW.cell (p := ⟨w.heap.size, 2, none⟩) VA2.out.lt).trans k2⟩, ⟨(hW.cell (p := ⟨X5, 0, none⟩) VA5.out.lt).trans k3, (hW.cell (p := ⟨X5, 1, none⟩) VA5.out.lt).trans k4, (hW.cell (p := ⟨X5, 2, none⟩) VA5.out.lt).trans k5⟩, (hW.cell (p := ⟨XA, 1, none⟩) A0.out.lt).trans a1, (hW.cell (p := ⟨XA, 2, none⟩) A0.out.lt).trans a2, (hW.cell (p := ⟨XA, 3, none⟩) A0.out.lt).trans a3⟩))
            have hfit := HFI.out.fit (show k ≤ 100 by omega)
            have HC1 := Lib.hid (unset_any a.name _ WA.drew (ex.below (Below.refl _ WA).drew (Nat.le_refl _)) hfit HFI.out.vars)
            have HC2 := Lib.hid (fun (W : World) (hW : Below WA.heap.size WA W) => (runset_any a.name _ W (ey.below hW (Nat.le_refl _)) hfit.1))
            clear hfit k0 k1 k2 k3 k4 k5 a1 a2 a3 ex ey
            go_upto_region 14 with fail
            refine regionL (S := fun V => (V.cell? ⟨w.heap.size, 0, none⟩ = some (.slice x1 m1 d1) ∧ V.cell? ⟨w.heap.size, 1, none⟩ = some (.slice x2 m2 d2) ∧ V.cell? ⟨w.heap.size, 2, none⟩ = some (.slice x3 m3 d3)) ∧ (V.cell? ⟨X5, 0, none⟩ = some (.slice y1 n1 i1) ∧ V.cell? ⟨X5, 1, none⟩ = some (.slice y2 n2 i2) ∧ V.cell? ⟨X5, 2, none⟩ = some (.slice y3 n3 i3)) ∧ (V.cell? ⟨XA, 1, none⟩ = some (.string a.name) ∧ V.cell? ⟨XA, 2, none⟩ = some (.string a.value) ∧ V.cell? ⟨XA, 3, none⟩ = some (.int .i64 a.n))) (L := 8) (by kernel_rfl) ?_ (fun hHeld => ?_)
            · exact HS.out WA.drew (Below.refl _ _).drew
            refine takeL (i := 0) (k := 73) (v := ?_) rfl (by kernel_rfl) (by kernel_rfl) (by kernel_rfl) (by kernel_rfl) (fun _ _ _ h => h) (by kernel_rfl) (by kernel_rfl) (by kernel_rfl) (by rfl) ?_ (by assumption) ?_
            rotate_left
            · intro w hSw; (try dsimp only at hSw); go_simp <;> (with_reducible rfl)
            simp only [List.setIfInBounds_toArray, List.set_cons_zero, List.set_cons_succ]
            refine takeL (i := 1) (k := 74) (v := ?_) rfl (by kernel_rfl) (by kernel_rfl) (by kernel_rfl) (by kernel_rfl) (fun _ _ _ h => h) (by kernel_rfl) (by kernel_rfl) (by kernel_rfl) (by rfl) ?_ (by assumption) ?_
            rotate_left
            · intro w hSw; (try dsimp only at hSw); go_simp <;> (with_reducible rfl)
            simp only [List.setIfInBounds_toArray, List.set_cons_zero, List.set_cons_succ]
            refine takeL (i := 2) (k := 75) (v := ?_) rfl (by kernel_rfl) (by kernel_rfl) (by kernel_rfl) (by kernel_rfl) (fun _ _ _ h => h) (by kernel_rfl) (by kernel_rfl) (by kernel_rfl) (by rfl) ?_ (by assumption) ?_
            rotate_left
            · intro w hSw; (try dsimp only at hSw); go_simp <;> (with_reducible rfl)
            simp only [List.setIfInBounds_toArray, List.set_cons_zero, List.set_cons_succ]
            refine takeM (i := 4) (k := 77) [7] (v := ?_) rfl (by kernel_rfl) (by kernel_rfl) (by kernel_rfl) (by kernel_rfl) (fun _ _ _ h => h) (by kernel_rfl) (by kernel_rfl) (by kernel_rfl) (by kernel_rfl) (by kernel_rfl) (by rfl) ?_ (by assumption) ?_
            rotate_left
            · intro w hSw; (try dsimp only at hSw); go_simp <;> (with_reducible rfl)
            simp only [List.setIfInBounds_toArray, List.set_cons_zero, List.set_cons_succ]
            refine takeM (i := 5) (k := 78) [6, 7] (v := ?_) rfl (by kernel_rfl) (by kernel_rfl) (by kernel_rfl) (by kernel_rfl) (fun _ _ _ h => h) (by kernel_rfl) (by kernel_rfl) (by kernel_rfl) (by kernel_rfl) (by kernel_rfl) (by rfl) ?_ (by assumption) ?_
            rotate_left
            · intro w hSw; (try dsimp only at hSw); go_simp <;> (with_reducible rfl)
            simp only [List.setIfInBounds_toArray, List.set_cons_zero, List.set_cons_succ]
            refine takeM (i := 6) (k := 79) [7] (v := ?_) rfl (by kernel_rfl) (by kernel_rfl) (by kernel_rfl) (by kernel_rfl) (fun _ _ _ h => h) (by kernel_rfl) (by kernel_rfl) (by kernel_rfl) (by kernel_rfl) (by kernel_rfl) (by rfl) ?_ (by assumption) ?_
            rotate_left
            · intro w hSw; (try dsimp only at hSw); go_simp <;> (with_reducible rfl)
            simp only [List.setIfInBounds_toArray, List.set_cons_zero, List.set_cons_succ]
            clear hHeld
            refine nextL (i := 3) (by kernel_rfl) rfl (by kernel_rfl) (fun K hK => ?_)
            go_simp
            go_wp2_with (go_at_call 11; (refine HC1.out.mono ?_); rintro e w5 ⟨v5, rfl, he, hb⟩; obtain ⟨g1, s1, h1, g2, s2, h2, g3, s3, h3, rfl⟩ := he.bare; have E5 := Lib.hid he; have B5 := Lib.hid (show Below WA.heap.size WA w5 from (Below.refl _ WA).drew.trans hb); clear he hb HC1)
            refine hK.out _ _ ?_ ?_
            · exact .inr (HS.out _ B5.out)
            clear hK K
            refine nextL (i := 7) (by kernel_rfl) rfl (by kernel_rfl) (fun K hK => ?_)
            go_simp
            go_wp2_with (go_at_call 12; (refine (HC2.out w5 B5.out).mono ?_); rintro e w6 ⟨v6, rfl, he, hb⟩; obtain ⟨j1, t1, l1, j2, t2, l2, j3, t3, l3, rfl⟩ := he.bare; have E6 := Lib.hid he; have E56 := Lib.hid (E5.out.below hb (Nat.le_refl _)); have B6 := Lib.hid (en_trans B5.out hb); clear he hb HC2)
            refine hK.out _ _ ?_ ?_
            · exact .inr (HS.out _ B6.out)
            clear hK K
            have V26 := Lib.hid (VA2.out.below B6.out)
            have V56 := Lib.hid (VA5.out.below B6.out)
            have A6 := Lib.hid (A0.out.below B6.out)
            obtain ⟨_, _, _, _, _, _, _, _, _, ⟨c0, c1, c2⟩, ⟨z0, z1, z2⟩, -⟩ := V26.out.cells
            refine nextL (i := 8) (by kernel_rfl) rfl (by kernel_rfl) (fun K hK => ?_)
            go_simp
            refine hK.out _ _ ?_ ?_
            · exact .inl (by kernel_rfl)
            clear hK K
            have hne : w.heap.size ≠ X5 := Nat.ne_of_lt HX.out
            have hneA : XA ≠ w.heap.size := Nat.ne_of_gt HXA.out.1
            have hneB : XA ≠ X5 := Nat.ne_of_gt HXA.out.2
            have V27 := V26.out.put E56.out
            have V57 := V26.out.far V56.out hne (.slice g1 s1 h1) (.slice g2 s2 h2) (.slice g3 s3 h3)
            obtain ⟨q1, r1, f1, q2, r2, f2, q3, r3, f3, hh1, -⟩ := V26.out
            have E67 := E6.out.put hh1 (.slice g1 s1 h1) (.slice g2 s2 h2) (.slice g3 s3 h3)
            have A7 := A6.out.far hneA (.slice g1 s1 h1) (.slice g2 s2 h2) (.slice g3 s3 h3)
            have B7 := env_set (BA.out.trans (B6.out.mono BA.out.size)) (Nat.le_refl w.heap.size) (.slice g1 s1 h1) (.slice g2 s2 h2) (.slice g3 s3 h3)
            obtain ⟨W7, hW7⟩ : ∃ W, ((w6.setCell ⟨w.heap.size, 0, none⟩ (.slice g1 s1 h1)).setCell ⟨w.heap.size, 1, none⟩ (.slice g2 s2 h2)).setCell ⟨w.heap.size, 2, none⟩ (.slice g3 s3 h3) = W := ⟨_, rfl⟩
            rw [hW7] at V27 V57 E67 A7 B7
            rw [hW7]
            clear hW7 hh1 c0 c1 c2 z0 z1 z2
            obtain ⟨_, _, _, _, _, _, _, _, _, ⟨c0, c1, c2⟩, ⟨z0, z1, z2⟩, -⟩ := V57.cells
            have U7 := Lib.hid (And.intro (V57.put E67) (And.intro (V57.far V27 (Ne.symm hne) (.slice j1 t1 l1) (.slice j2 t2 l2) (.slice j3 t3 l3)) (And.intro (A7.far hneB (.slice j1 t1 l1) (.slice j2 t2 l2) (.slice j3 t3 l3)) (env_set B7 (Nat.le_of_lt HX.out) (.slice j1 t1 l1) (.slice j2 t2 l2) (.slice j3 t3 l3)))))
            clear V27 V57 E67 A7 B7 hne hneA hneB
            refine nextL (i := 9) (by kernel_rfl) rfl (by kernel_rfl) (fun K hK => ?_)
            go_simp
            refine hK.out _ _ ?_ ?_
            · exact .inl (by kernel_rfl)
            clear hK K
            refine doneL (by kernel_rfl) ?_ _
            go_wp2_with fail
            go_meet
            case rel => exact ⟨rfl, HST.out, U7.out.2.1, U7.out.1, U7.out.2.2.1, U7.out.2.2.2⟩
          · by_cases hkd3 : a.kind = 3
            · have hkd := hkd3
              rw [hkd3] at a0
              have hstep : { E with funs := setM E.funs a.name a.n } = E' := by rw [← HE'.out]; unfold stepM; simp [hkd]
              subst hstep
              obtain ⟨x1, m1, d1, x2, m2, d2, x3, m3, d3, ⟨k0, k1, k2⟩, -, ex⟩ := VA2.out.cells
              obtain ⟨y1, n1, i1, y2, n2, i2, y3, n3, i3, ⟨k3, k4, k5⟩, -, ey⟩ := VA5.out.cells
              have HS := Lib.hid (fun (W : World) (hW : Below WA.heap.size WA W) => (show (fun V => (V.cell? ⟨w.heap.size, 0, none⟩ = some (.slice x1 m1 d1) ∧ V.cell? ⟨w.heap.size, 1, none⟩ = some (.slice x2 m2 d2) ∧ V.cell? ⟨w.heap.size, 2, none⟩ = some (.slice x3 m3 d3)) ∧ (V.cell? ⟨X5, 0, none⟩ = some (.slice y1 n1 i1) ∧ V.cell? ⟨X5, 1, none⟩ = some (.slice y2 n2 i2) ∧ V.cell? ⟨X5, 2, none⟩ = some (.slice y3 n3 i3)) ∧ (V.cell? ⟨XA, 1, none⟩ = some (.string a.name) ∧ V.cell? ⟨XA, 2, none⟩ = some (.string a.value) ∧ V.cell? ⟨XA, 3, none⟩ = some (.int .i64 a.n))) W from ⟨⟨(hW.cell (p := ⟨w.heap.size, 0, none⟩) VA2.out.lt).trans k0, (hW.cell (p := ⟨w.heap.size, 1, none⟩) VA2.out.lt).trans k1, (hW.cell (p := ⟨w.heap.size, 2, none⟩) VA2.out.lt).trans k2⟩, ⟨(hW.cell (p := ⟨X5, 0, none⟩) VA5.out.lt).trans k3, (hW.cell (p := ⟨X5, 1, none⟩) VA5.out.lt).trans k4, (hW.cell (p := ⟨X5, 2, none⟩) VA5.out.lt).trans k5⟩, (hW.cell (p := ⟨XA, 1, none⟩) A0.out.lt).trans a1, (hW.cell (p := ⟨XA, 2, none⟩) A0.out.lt).trans a2, (hW.cell (p := ⟨XA, 3, none⟩) A0.out.lt).trans a3⟩))
              have hfit := HFI.out.fit (show k ≤ 100 by omega)
              have HC1 := Lib.hid (define_any a.name a.n _ WA.drew (ex.below (Below.refl _ WA).drew (Nat.le_refl _)) hfit HFI.out.funs)
              have HC2 := Lib.hid (fun (W : World) (hW : Below WA.heap.size WA W) => (rdefine_any a.name a.n _ W (ey.below hW (Nat.le_refl _)) hfit.2.1 HFI.out.funs))
              clear hfit k0 k1 k2 k3 k4 k5 a1 a2 a3 ex ey
              go_upto_region 16 with fail
              refine regionL (S := fun V => (V.cell? ⟨w.heap.size, 0, none⟩ = some (.slice x1 m1 d1) ∧ V.cell? ⟨w.heap.size, 1, none⟩ = some (.slice x2 m2 d2) ∧ V.cell? ⟨w.heap.size, 2, none⟩ = some (.slice x3 m3 d3)) ∧ (V.cell? ⟨X5, 0, none⟩ = some (.slice y1 n1 i1) ∧ V.cell? ⟨X5, 1, none⟩ = some (.slice y2 n2 i2) ∧ V.cell? ⟨X5, 2, none⟩ = some (.slice y3 n3 i3)) ∧ (V.cell? ⟨XA, 1, none⟩ = some (.string a.name) ∧ V.cell? ⟨XA, 2, none⟩ = some (.string a.value) ∧ V.cell? ⟨XA, 3, none⟩ = some (.int .i64 a.n))) (L := 12) (by kernel_rfl) ?_ (fun hHeld => ?_)
              · exact HS.out WA.drew (Below.refl _ _).drew
              refine takeL (i := 0) (k := 83) (v := ?_) rfl (by kernel_rfl) (by kernel_rfl) (by kernel_rfl) (by kernel_rfl) (fun _ _ _ h => h) (by kernel_rfl) (by kernel_rfl) (by kernel_rfl) (by rfl) ?_ (by assumption) ?_
              rotate_left
              · intro w hSw; (try dsimp only at hSw); go_simp <;> (with_reducible rfl)
              simp only [List.setIfInBounds_toArray, List.set_cons_zero, List.set_cons_succ]
              refine takeL (i := 1) (k := 84) (v := ?_) rfl (by kernel_rfl) (by kernel_rfl) (by kernel_rfl) (by kernel_rfl) (fun _ _ _ h => h) (by kernel_rfl) (by kernel_rfl) (by kernel_rfl) (by rfl) ?_ (by assumption) ?_
              rotate_left
              · intro w hSw; (try dsimp only at hSw); go_simp <;> (with_reducible rfl)
              simp only [List.setIfInBounds_toArray, List.set_cons_zero, List.set_cons_succ]
              refine takeL (i := 2) (k := 85) (v := ?_) rfl (by kernel_rfl) (by kernel_rfl) (by kernel_rfl) (by kernel_rfl) (fun _ _ _ h => h) (by kernel_rfl) (by kernel_rfl) (by kernel_rfl) (by rfl) ?_ (by assumption) ?_
              rotate_left
              · intro w hSw; (try dsimp only at hSw); go_simp <;> (with_reducible rfl)
              simp only [List.setIfInBounds_toArray, List.set_cons_zero, List.set_cons_succ]
              refine takeL (i := 3) (k := 86) (v := ?_) rfl (by kernel_rfl) (by kernel_rfl) (by kernel_rfl) (by kernel_rfl) (fun _ _ _ h => h) (by kernel_rfl) (by kernel_rfl) (by kernel_rfl) (by rfl) ?_ (by assumption) ?_
              rotate_left
              · intro w hSw; (try dsimp only at hSw); go_simp <;> (with_reducible rfl)
              simp only [List.setIfInBounds_toArray, List.set_cons_zero, List.set_cons_succ]
              refine takeL (i := 4) (k := 87) (v := ?_) rfl (by kernel_rfl) (by kernel_rfl) (by kernel_rfl) (by kernel_rfl) (fun _ _ _ h => h) (by kernel_rfl) (by kernel_rfl) (by kernel_rfl) (by rfl) ?_ (by assumption) ?_
              rotate_left
              · intro w hSw; (try dsimp only at hSw); go_simp <;> (with_reducible rfl)
              simp only [List.setIfInBounds_toArray, List.set_cons_zero, List.set_cons_succ]
              refine takeM (i := 6) (k := 89) [11] (v := ?_) rfl (by kernel_rfl) (by kernel_rfl) (by kernel_rfl) (by kernel_rfl) (fun _ _ _ h => h) (by kernel_rfl) (by kernel_rfl) (by kernel_rfl) (by kernel_rfl) (by kernel_rfl) (by rfl) ?_ (by assumption) ?_
              rotate_left
              · intro w hSw; (try dsimp only at hSw); go_simp <;> (with_reducible rfl)
              simp only [List.setIfInBounds_toArray, List.set_cons_zero, List.set_cons_succ]
              refine takeM (i := 7) (k := 90) [8, 11] (v := ?_) rfl (by kernel_rfl) (by kernel_rfl) (by kernel_rfl) (by kernel_rfl) (fun _ _ _ h => h) (by kernel_rfl) (by kernel_rfl) (by kernel_rfl) (by kernel_rfl) (by kernel_rfl) (by rfl) ?_ (by assumption) ?_
              rotate_left
              · intro w hSw; (try dsimp only at hSw); go_simp <;> (with_reducible rfl)
              simp only [List.setIfInBounds_toArray, List.set_cons_zero, List.set_cons_succ]
              refine takeM (i := 8) (k := 91) [11] (v := ?_) rfl (by kernel_rfl) (by kernel_rfl) (by kernel_rfl) (by kernel_rfl) (fun _ _ _ h => h) (by kernel_rfl) (by kernel_rfl) (by kernel_rfl) (by kernel_rfl) (by kernel_rfl) (by rfl) ?_ (by assumption) ?_
              rotate_left
              · intro w hSw; (try dsimp only at hSw); go_simp <;> (with_reducible rfl)
              simp only [List.setIfInBounds_toArray, List.set_cons_zero, List.set_cons_succ]
              refine takeM (i := 9) (k := 92) [10, 11] (v := ?_) rfl (by kernel_rfl) (by kernel_rfl) (by kernel_rfl) (by kernel_rfl) (fun _ _ _ h => h) (by kernel_rfl) (by kernel_rfl) (by kernel_rfl) (by kernel_rfl) (by kernel_rfl) (by rfl) ?_ (by assumption) ?_
              rotate_left
              · intro w hSw; (try dsimp only at hSw); go_simp <;> (with_reducible rfl)
              simp only [List.setIfInBounds_toArray, List.set_cons_zero, List.set_cons_succ]
              refine takeM (i := 10) (k := 93) [11] (v := ?_) rfl (by kernel_rfl) (by kernel_rfl) (by kernel_rfl) (by kernel_rfl) (fun _ _ _ h => h) (by kernel_rfl) (by kernel_rfl) (by kernel_rfl) (by kernel_rfl) (by kernel_rfl) (by rfl) ?_ (by assumption) ?_
              rotate_left
              · intro w hSw; (try dsimp only at hSw); go_simp <;> (with_reducible rfl)
              simp only [List.setIfInBounds_toArray, List.set_cons_zero, List.set_cons_succ]
              clear hHeld
              refine nextL (i := 5) (by kernel_rfl) rfl (by kernel_rfl) (fun K hK => ?_)
              go_simp
              go_wp2_with (go_at_call 13; (refine HC1.out.mono ?_); rintro e w5 ⟨v5, rfl, he, hb⟩; obtain ⟨g1, s1, h1, g2, s2, h2, g3, s3, h3, rfl⟩ := he.bare; have E5 := Lib.hid he; have B5 := Lib.hid (show Below WA.heap.size WA w5 from (Below.refl _ WA).drew.trans hb); clear he hb HC1)
              refine hK.out _ _ ?_ ?_
              · exact .inr (HS.out _ B5.out)
              clear hK K
              refine nextL (i := 11) (by kernel_rfl) rfl (by kernel_rfl) (fun K hK => ?_)
              go_simp
              go_wp2_with (go_at_call 14; (refine (HC2.out w5 B5.out).mono ?_); rintro e w6 ⟨v6, rfl, he, hb⟩; obtain ⟨j1, t1, l1, j2, t2, l2, j3, t3, l3, rfl⟩ := he.bare; have E6 := Lib.hid he; have E56 := Lib.hid (E5.out.below hb (Nat.le_refl _)); have B6 := Lib.hid (en_trans B5.out hb); clear he hb HC2)
              refine hK.out _ _ ?_ ?_
              · exact .inr (HS.out _ B6.out)
              clear hK K
              have V26 := Lib.hid (VA2.out.below B6.out)
              have V56 := Lib.hid (VA5.out.below B6.out)
              have A6 := Lib.hid (A0.out.below B6.out)
              obtain ⟨_, _, _, _, _, _, _, _, _, ⟨c0, c1, c2⟩, ⟨z0, z1, z2⟩, -⟩ := V26.out.cells
              refine nextL (i := 12) (by kernel_rfl) rfl (by kernel_rfl) (fun K hK => ?_)
              go_simp
              refine hK.out _ _ ?_ ?_
              · exact .inl (by kernel_rfl)
              clear hK K
              have hne : w.heap.size ≠ X5 := Nat.ne_of_lt HX.out
              have hneA : XA ≠ w.heap.size := Nat.ne_of_gt HXA.out.1
              have hneB : XA ≠ X5 := Nat.ne_of_gt HXA.out.2
              have V27 := V26.out.put E56.out
              have V57 := V26.out.far V56.out hne (.slice g1 s1 h1) (.slice g2 s2 h2) (.slice g3 s3 h3)
              obtain ⟨q1, r1, f1, q2, r2, f2, q3, r3, f3, hh1, -⟩ := V26.out
              have E67 := E6.out.put hh1 (.slice g1 s1 h1) (.slice g2 s2 h2) (.slice g3 s3 h3)
              have A7 := A6.out.far hneA (.slice g1 s1 h1) (.slice g2 s2 h2) (.slice g3 s3 h3)
              have B7 := env_set (BA.out.trans (B6.out.mono BA.out.size)) (Nat.le_refl w.heap.size) (.slice g1 s1 h1) (.slice g2 s2 h2) (.slice g3 s3 h3)
              obtain ⟨W7, hW7⟩ : ∃ W, ((w6.setCell ⟨w.heap.size, 0, none⟩ (.slice g1 s1 h1)).setCell ⟨w.heap.size, 1, none⟩ (.slice g2 s2 h2)).setCell ⟨w.heap.size, 2, none⟩ (.slice g3 s3 h3) = W := ⟨_, rfl⟩
              rw [hW7] at V27 V57 E67 A7 B7
              rw [hW7]
              clear hW7 hh1 c0 c1 c2 z0 z1 z2
              obtain ⟨_, _, _, _, _, _, _, _, _, ⟨c0, c1, c2⟩, ⟨z0, z1, z2⟩, -⟩ := V57.cells
              have U7 := Lib.hid (And.intro (V57.put E67) (And.intro (V57.far V27 (Ne.symm hne) (.slice j1 t1 l1) (.slice j2 t2 l2) (.slice j3 t3 l3)) (And.intro (A7.far hneB (.slice j1 t1 l1) (.slice j2 t2 l2) (.slice j3 t3 l3)) (env_set B7 (Nat.le_of_lt HX.out) (.slice j1 t1 l1) (.slice j2 t2 l2) (.slice j3 t3 l3)))))
              clear V27 V57 E67 A7 B7 hne hneA hneB
              refine nextL (i := 13) (by kernel_rfl) rfl (by kernel_rfl) (fun K hK => ?_)
              go_simp
              refine hK.out _ _ ?_ ?_
              · exact .inl (by kernel_rfl)
              clear hK K
              refine doneL (by kernel_rfl) ?_ _
              go_wp2_with fail
              go_meet
              case rel => exact ⟨rfl, HST.out, U7.out.2.1, U7.out.1, U7.out.2.2.1, U7.out.2.2.2⟩
            · have hstep : E = E' := by rw [← HE'.out]; unfold stepM; simp [hkd, hkd2, hkd3]
              subst hstep
              have q1 : (a.kind == 1) = false := by simpa using hkd
              have q2 : (a.kind == 2) = false := by simpa using hkd2
              have q3 : (a.kind == 3) = false := by simpa using hkd3
              go_wp2_with fail
              go_meet
              case rel => exact ⟨rfl, HST.out, VA2.out, VA5.out, A0.out, BA.out⟩
      case rest =>
        obtain ⟨rfl, hfi, hv2, hv5, haa, hbc⟩ := hcut
        have FI := Lib.hid hfi
        have BC := Lib.hid hbc
        obtain ⟨x1, m1, d1, x2, m2, d2, x3, m3, d3, ⟨k0, k1, k2⟩, -, ex⟩ := hv2.cells
        obtain ⟨y1, n1, i1, y2, n2, i2, y3, n3, i3, ⟨k3, k4, k5⟩, -, ey⟩ := hv5.cells
        obtain ⟨a0, a1, a2, a3⟩ := haa.cells
        have HS := Lib.hid (fun (W : World) (hW : Below wc.heap.size wc W) => (show (W.cell? ⟨w.heap.size, 0, none⟩ = some (.slice x1 m1 d1) ∧ W.cell? ⟨w.heap.size, 1, none⟩ = some (.slice x2 m2 d2) ∧ W.cell? ⟨w.heap.size, 2, none⟩ = some (.slice x3 m3 d3)) ∧ (W.cell? ⟨X5, 0, none⟩ = some (.slice y1 n1 i1) ∧ W.cell? ⟨X5, 1, none⟩ = some (.slice y2 n2 i2) ∧ W.cell? ⟨X5, 2, none⟩ = some (.slice y3 n3 i3)) ∧ W.cell? ⟨XA, 1, none⟩ = some (.string a.name) ∧ W.cell? ⟨XA, 3, none⟩ = some (.int .i64 a.n) from ⟨⟨(hW.cell (p := ⟨w.heap.size, 0, none⟩) hv2.lt).trans k0, (hW.cell (p := ⟨w.heap.size, 1, none⟩) hv2.lt).trans k1, (hW.cell (p := ⟨w.heap.size, 2, none⟩) hv2.lt).trans k2⟩, ⟨(hW.cell (p := ⟨X5, 0, none⟩) hv5.lt).trans k3, (hW.cell (p := ⟨X5, 1, none⟩) hv5.lt).trans k4, (hW.cell (p := ⟨X5, 2, none⟩) hv5.lt).trans k5⟩, (hW.cell (p := ⟨XA, 1, none⟩) haa.lt).trans a1, (hW.cell (p := ⟨XA, 3, none⟩) haa.lt).trans a3⟩))
        have hfit := hfi.fit (show k + 1 ≤ 100 by omega)
        have HEX := Lib.hid (fun (W : World) (hW : Below wc.heap.size wc W) => ex.below hW (Nat.le_refl _))
        have HEY := Lib.hid (fun (W : World) (hW : Below wc.heap.size wc W) => ey.below hW (Nat.le_refl _))
        have HC1 := Lib.hid (fun W hW => getV_any a.name _ W (HEX.out W hW) hfit hfi.vars)
        have HC2 := Lib.hid (fun W hW => rgetV_any a.name _ W (HEY.out W hW) hfit)
        have HC3 := Lib.hid (fun W hW => getF_any a.name _ W (HEX.out W hW) hfit hfi.funs)
        have HC4 := Lib.hid (fun W hW => rgetF_any a.name _ W (HEY.out W hW) hfit)
        have HC5 := Lib.hid (fun W hW => arg_any a.n _ W (HEX.out W hW))
        have HC6 := Lib.hid (fun W hW => rarg_any a.n _ W (HEY.out W hW))
        have HC7 := Lib.hid (fun W hW => rsame_any _ _ W (HEX.out W hW) (HEY.out W hW) hfit)
        have HC8 := Lib.hid (fun W hW => is_any _ W (HEX.out W hW) hfit.1 hfit.2.1)
        rw [isO_iff.2 hfi.vars, isO_iff.2 hfi.funs, Bool.and_self] at HC8
        rw [decide_eq_true rfl] at HC7
        obtain ⟨g1, hg1⟩ : ∃ g, (getM E'.vars a.name).getD ⟨#[]⟩ = g := ⟨_, rfl⟩
        obtain ⟨g2, hg2⟩ : ∃ g, (getM E'.vars a.name).isSome = g := ⟨_, rfl⟩
        obtain ⟨g3, hg3⟩ : ∃ g, (getM E'.funs a.name).getD 0 = g := ⟨_, rfl⟩
        obtain ⟨g4, hg4⟩ : ∃ g, (getM E'.funs a.name).isSome = g := ⟨_, rfl⟩
        obtain ⟨g5, hg5⟩ : ∃ g, (argM E' a.n).getD ⟨#[]⟩ = g := ⟨_, rfl⟩
        obtain ⟨g6, hg6⟩ : ∃ g, (argM E' a.n).isSome = g := ⟨_, rfl⟩
        rw [hg1, hg2] at HC1 HC2
        rw [hg3, hg4] at HC3 HC4
        rw [hg5, hg6] at HC5 HC6
        have z1 : (g1.toList == g1.toList) = true := by simp
        have z5 : (g5.toList == g5.toList) = true := by simp
        have z3 : (g3 == g3) = true := by simp
        have HVR := Lib.hid (And.intro hv2 hv5)
        clear hfi hv2 hv5 haa hbc hfit ex ey hg1 hg2 hg3 hg4 hg5 hg6 a0 a2 HST
        go_wp2_with (first
          | (go_at_call 15; (refine (HC1.out wc (Below.refl _ _)).mono ?_); rintro e w1 ⟨rfl, hb⟩; obtain ⟨⟨k0, k1, k2⟩, ⟨k3, k4, k5⟩, a1, a3⟩ := HS.out w1 hb; have C1 := Lib.hid hb; clear hb HC1)
          | (go_at_call 16; (refine (HC2.out w1 C1.out).mono ?_); rintro e w2 ⟨rfl, hb⟩; obtain ⟨⟨k0, k1, k2⟩, ⟨k3, k4, k5⟩, a1, a3⟩ := HS.out w2 (en_trans C1.out hb); have C2 := Lib.hid (en_trans C1.out hb); clear hb HC2)
          | (go_at_call 17; (refine (HC3.out w2 C2.out).mono ?_); rintro e w3' ⟨rfl, hb⟩; obtain ⟨⟨k0, k1, k2⟩, ⟨k3, k4, k5⟩, a1, a3⟩ := HS.out w3' (en_trans C2.out hb); have C3 := Lib.hid (en_trans C2.out hb); clear hb HC3)
          | (go_at_call 18; (refine (HC4.out w3' C3.out).mono ?_); rintro e w4 ⟨rfl, hb⟩; obtain ⟨⟨k0, k1, k2⟩, ⟨k3, k4, k5⟩, a1, a3⟩ := HS.out w4 (en_trans C3.out hb); have C4 := Lib.hid (en_trans C3.out hb); clear hb HC4)
          | (go_at_call 19; (refine (HC5.out w4 C4.out).mono ?_); rintro e w5 ⟨rfl, hb⟩; obtain ⟨⟨k0, k1, k2⟩, ⟨k3, k4, k5⟩, a1, a3⟩ := HS.out w5 (en_trans C4.out hb); have C5 := Lib.hid (en_trans C4.out hb); clear hb HC5)
          | (go_at_call 20; (refine (HC6.out w5 C5.out).mono ?_); rintro e w6 ⟨rfl, hb⟩; obtain ⟨⟨k0, k1, k2⟩, ⟨k3, k4, k5⟩, a1, a3⟩ := HS.out w6 (en_trans C5.out hb); have C6 := Lib.hid (en_trans C5.out hb); clear hb HC6)
          | (go_at_call 21; (refine (HC7.out w6 C6.out).mono ?_); rintro e w7 ⟨rfl, hb⟩; obtain ⟨⟨k0, k1, k2⟩, ⟨k3, k4, k5⟩, a1, a3⟩ := HS.out w7 (en_trans C6.out hb); have C7 := Lib.hid (en_trans C6.out hb); clear hb HC7)
          | (go_at_call 7; (refine (HC8.out w7 C7.out).mono ?_); rintro e w8 ⟨rfl, hb⟩; have C8 := Lib.hid (en_trans C7.out hb); clear hb HC8))
        go_roundw
        case rel => exact ⟨k + 1, E', by go_num, by omega, FI.out, HVR.out.1.below C8.out, HVR.out.2.below C8.out, BC.out.trans (C8.out.mono BC.out.size)⟩
        case measure => simp [intOf]; omega
    · have hI : ¬ ((k : Int) < (NL : Int)) := by omega
      have HKN := Lib.hid (known_any wr)
      clear hlt
      go_wp2_with (go_at_call 8; (refine HKN.out.mono ?_); rintro e w8 ⟨rfl, hb⟩; have C8 := Lib.hid (HW.out.trans (hb.mono HW.out.size)); clear hb)
      go_ret
      exact ⟨rfl, C8.out⟩
end Go.Proofs.Ytbbopbbnhkcfdaa
