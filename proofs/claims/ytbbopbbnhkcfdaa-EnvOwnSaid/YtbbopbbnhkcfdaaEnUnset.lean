/-
  Proved: contract of env.Unset. Conditions: names in order; at most 1000 variables and functions; arguments within 2^47 bytes.
-/
import Derived.Test.YtbbopbbnhkcfdaaEnEnv
namespace Go.Proofs.Ytbbopbbnhkcfdaa
open Go Go.RowKit EnMath

set_option maxHeartbeats 8000000 in
theorem unset_any {E : Ev} (n : ByteArray) (v : Value) (w : World) (h : EnvAt w v E) (hf : Fit E) (ho : Ordd E.vars) :
    Calls Try.prog 11 #[v, .string n] w fun e w' => ∃ v', e = .returned v' ∧ EnvAt w' v' { E with vars := delM E.vars n } ∧ Below w.heap.size w w' := by
  obtain ⟨p1, c1, p2, c2, p3, c3, rfl, r1, r2, r3⟩ := h.shape
  obtain ⟨A, o, C, s⟩ := spl E.vars n ho
  rw [s.del]
  obtain ⟨W2, hW2⟩ : ∃ W, (w.alloc (.cells #[.slice p1 E.vars.length c1, .slice p2 E.args.length c2, .slice p3 E.funs.length c3] 26)).alloc (.cells #[.slice none 0 0, .slice none 0 0, .slice none 0 0] 26) = W := ⟨_, rfl⟩
  have hb : Below w.heap.size w W2 := by rw [← hW2]; exact en_alloc (en_alloc (Below.refl _ w) _) _
  have hX : W2.heap[w.heap.size]? = some (.cells #[.slice p1 E.vars.length c1, .slice p2 E.args.length c2, .slice p3 E.funs.length c3] 26 (0, 0)) := by rw [← hW2, Below.heap_alloc _ _ _ (by simp)]; exact heap_alloc_new w _
  have hY : W2.heap[w.heap.size + 1]? = some (.cells #[.slice none 0 0, .slice none 0 0, .slice none 0 0] 26 (0, 0)) := by
    have := heap_alloc_new (w.alloc (.cells #[.slice p1 E.vars.length c1, .slice p2 E.args.length c2, .slice p3 E.funs.length c3] 26)) (.cells #[.slice none 0 0, .slice none 0 0, .slice none 0 0] 26)
    rw [hW2] at this
    simpa using this
  have hXl : w.heap.size < W2.heap.size := (Array.getElem?_eq_some_iff.1 hX).1
  have hYl : w.heap.size + 1 < W2.heap.size := (Array.getElem?_eq_some_iff.1 hY).1
  have r1' := r1.below hb (Nat.le_refl _)
  have r2' := r2.below hb (Nat.le_refl _)
  have r3' := r3.below hb (Nat.le_refl _)
  have HB := Lib.hid hb
  have HY := Lib.hid hY
  have HW := Lib.hid (fun (W : World) (hW : Below W2.heap.size W2 W) => (without_any s _ W (r1'.below hW (Nat.le_refl _)) hf.1).mono (fun e w' (h : ∃ v', _) => (show ∃ p c, e = Ending.returned (.slice p (A ++ C).length c) ∧ Rd 2 bC w' (.slice p (A ++ C).length c) (A ++ C) ∧ Below W.heap.size W w' ∧ Below W2.heap.size W2 w' by
    obtain ⟨v', he, hr, hb⟩ := h
    obtain ⟨p, c, rfl⟩ := hr.shape
    exact ⟨p, c, he, hr, hb, en_trans hW hb⟩)))
  have HS := Lib.hid (fun (W : World) (g : Nat) (hW : Below W2.heap.size W2 W) (hg : Has W g (.slice p2 E.args.length c2) 23) => (copyS_any hg (r2'.below hW (Nat.le_refl _)) hf.2.2).mono fun e w' ⟨p, c, he, hr, hb⟩ => (show ∃ p c, e = Ending.returned (.slice p E.args.length c) ∧ Rd 1 sC w' (.slice p E.args.length c) E.args ∧ Below W.heap.size W w' ∧ Below W2.heap.size W2 w' from ⟨p, c, he, hr, hb, en_trans hW hb⟩))
  have HF := Lib.hid (fun (W : World) (g : Nat) (hW : Below W2.heap.size W2 W) (hg : Has W g (.slice p3 E.funs.length c3) 24) => (copyF_any hg (r3'.below hW (Nat.le_refl _)) hf.2.1).mono fun e w' ⟨p, c, he, hr, hb⟩ => (show ∃ p c, e = Ending.returned (.slice p E.funs.length c) ∧ Rd 2 fC w' (.slice p E.funs.length c) E.funs ∧ Below W.heap.size W w' ∧ Below W2.heap.size W2 w' from ⟨p, c, he, hr, hb, en_trans hW hb⟩))
  have HK := Lib.hid (fun (W : World) (hW : Below W2.heap.size W2 W) => (show W.cell? ⟨w.heap.size, 0, none⟩ = some (.slice p1 E.vars.length c1) ∧ W.cell? ⟨w.heap.size, 1, none⟩ = some (.slice p2 E.args.length c2) ∧ W.cell? ⟨w.heap.size, 2, none⟩ = some (.slice p3 E.funs.length c3) by
    have g1 := (hW.block _ hXl).trans hX
    exact ⟨cell_of_row _ _ 0 _ _ _ g1, cell_of_row _ _ 1 _ _ _ g1, cell_of_row _ _ 2 _ _ _ g1⟩))
  have HKS := Lib.hid (fun (W : World) (a b c : Value) (hW : Below W2.heap.size W2 W) => (show (((W.setCell ⟨w.heap.size + 1, 0, none⟩ a).setCell ⟨w.heap.size + 1, 1, none⟩ b).setCell ⟨w.heap.size + 1, 2, none⟩ c).cell? ⟨w.heap.size, 0, none⟩ = some (.slice p1 E.vars.length c1) ∧ (((W.setCell ⟨w.heap.size + 1, 0, none⟩ a).setCell ⟨w.heap.size + 1, 1, none⟩ b).setCell ⟨w.heap.size + 1, 2, none⟩ c).cell? ⟨w.heap.size, 1, none⟩ = some (.slice p2 E.args.length c2) ∧ (((W.setCell ⟨w.heap.size + 1, 0, none⟩ a).setCell ⟨w.heap.size + 1, 1, none⟩ b).setCell ⟨w.heap.size + 1, 2, none⟩ c).cell? ⟨w.heap.size, 2, none⟩ = some (.slice p3 E.funs.length c3) by
    have g1 := (hW.block _ hXl).trans hX
    have g2 : (((W.setCell ⟨w.heap.size + 1, 0, none⟩ a).setCell ⟨w.heap.size + 1, 1, none⟩ b).setCell ⟨w.heap.size + 1, 2, none⟩ c).heap[w.heap.size]? = W.heap[w.heap.size]? := by
      rw [Below.heap_setCell _ _ _ _ (by simp), Below.heap_setCell _ _ _ _ (by simp), Below.heap_setCell _ _ _ _ (by simp)]
    rw [g1] at g2
    exact ⟨cell_of_row _ _ 0 _ _ _ g2, cell_of_row _ _ 1 _ _ _ g2, cell_of_row _ _ 2 _ _ _ g2⟩))
  have HYK := Lib.hid (fun (W : World) (hW : Below W2.heap.size W2 W) => (show W.cell? ⟨w.heap.size + 1, 0, none⟩ = some (.slice none 0 0) ∧ W.cell? ⟨w.heap.size + 1, 1, none⟩ = some (.slice none 0 0) ∧ W.cell? ⟨w.heap.size + 1, 2, none⟩ = some (.slice none 0 0) ∧ W.frozen? ⟨w.heap.size + 1, 0, none⟩ = false ∧ W.frozen? ⟨w.heap.size + 1, 1, none⟩ = false ∧ W.frozen? ⟨w.heap.size + 1, 2, none⟩ = false by
    have g2 := (hW.block _ hYl).trans hY
    exact ⟨cell_of_row _ _ 0 _ _ _ g2, cell_of_row _ _ 1 _ _ _ g2, cell_of_row _ _ 2 _ _ _ g2, frozen_of_row _ _ 0 _ _ g2, frozen_of_row _ _ 1 _ _ g2, frozen_of_row _ _ 2 _ _ g2⟩))
  have HYL := Lib.hid hYl
  obtain ⟨N1, hN1⟩ : ∃ N, E.vars.length = N := ⟨_, rfl⟩
  obtain ⟨N2, hN2⟩ : ∃ N, E.args.length = N := ⟨_, rfl⟩
  obtain ⟨N3, hN3⟩ : ∃ N, E.funs.length = N := ⟨_, rfl⟩
  obtain ⟨J, hJ⟩ : ∃ J, A ++ C = J := ⟨_, rfl⟩
  rw [hJ] at HW ⊢
  obtain ⟨N4, hN4⟩ : ∃ N, J.length = N := ⟨_, rfl⟩
  rw [hN1] at hW2 HW HK HKS ⊢
  rw [hN2] at hW2 HS HK HKS ⊢
  rw [hN3] at hW2 HF HK HKS ⊢
  rw [hN4] at HW
  clear h hf ho s hb hX hY hXl hYl r1 r2 r3 r1' r2' r3' hN1 hN2 hN3 hN4 hJ
  go_enter Try.func11, Try.ntmps11
  go_wp2_with (rw [hW2]; clear hW2)
  go_region_held3 (fun V => V.cell? ⟨w.heap.size, 0, none⟩ = some (.slice p1 N1 c1) ∧ V.cell? ⟨w.heap.size, 1, none⟩ = some (.slice p2 N2 c2) ∧ V.cell? ⟨w.heap.size, 2, none⟩ = some (.slice p3 N3 c3)) (first | assumption | (with_reducible refine HKS.out _ _ _ _ ?_; (repeat (with_reducible first | exact B3.out | exact B2.out | exact B1.out | exact Below.refl _ _ | apply Below.drew | apply en_alloc)); done) | (refine HK.out _ ?_; (repeat (with_reducible first | exact B3.out | exact B2.out | exact B1.out | exact Below.refl _ _ | apply Below.drew | apply en_alloc)); done)) ((first
    | (go_at_call 29; (refine (HW.out _ (by (repeat (with_reducible first | exact B3.out | exact B2.out | exact B1.out | exact Below.refl _ _ | apply Below.drew | apply en_alloc)))).mono ?_); rintro e w1 ⟨q1, d1, rfl, hr1, hk1, hb1⟩; have R1 := Lib.hid hr1; have K1 := Lib.hid hk1; have B1 := Lib.hid hb1; clear hr1 hk1 hb1)
    | (go_at_call 27; (refine (HS.out _ _ (by (repeat (with_reducible first | exact B3.out | exact B2.out | exact B1.out | exact Below.refl _ _ | apply Below.drew | apply en_alloc))) (by (repeat (with_reducible first | exact Has.new (by simp) | apply Has.drew | apply Has.alloc | (refine Has.below ?_ K2.out) | (refine Has.below ?_ K1.out))))).mono ?_); rintro e w3 ⟨q2, d2, rfl, hr2, hk2, hb2⟩; have R2 := Lib.hid hr2; have K2 := Lib.hid hk2; have B2 := Lib.hid hb2; clear hr2 hk2 hb2)
    | (go_at_call 28; (refine (HF.out _ _ (by (repeat (with_reducible first | exact B3.out | exact B2.out | exact B1.out | exact Below.refl _ _ | apply Below.drew | apply en_alloc))) (by (repeat (with_reducible first | exact Has.new (by simp) | apply Has.drew | apply Has.alloc | (refine Has.below ?_ K2.out) | (refine Has.below ?_ K1.out))))).mono ?_); rintro e w4 ⟨q3, d3, rfl, hr3, hk3, hb3⟩; have R3 := Lib.hid hr3; have K3 := Lib.hid hk3; have B3 := Lib.hid hb3; obtain ⟨f0, f1, f2, f3, f4, f5⟩ := HYK.out w4 hb3; clear hr3 hk3 hb3)))
  all_goals
    have hk := (B3.out.block _ HYL.out).trans HY.out
    have hE : EnvAt w4 (.agg #[.slice q1 N4 d1, .slice q2 N2 d2, .slice q3 N3 d3]) ⟨J, E.args, E.funs⟩ := ⟨_, _, _, rfl, R1.out.below (en_trans (en_trans (by repeat (with_reducible first | exact Below.refl _ _ | apply Below.drew | apply en_alloc)) K2.out) (en_trans (by repeat (with_reducible first | exact Below.refl _ _ | apply Below.drew | apply en_alloc)) K3.out)) (Nat.le_refl _), R2.out.below (en_trans (by repeat (with_reducible first | exact Below.refl _ _ | apply Below.drew | apply en_alloc)) K3.out) (Nat.le_refl _), R3.out⟩
    have hE2 := hE.put hk (.slice q1 N4 d1) (.slice q2 N2 d2) (.slice q3 N3 d3)
    have HP := Lib.hid (env_put (a := .slice q1 N4 d1) (b := .slice q2 N2 d2) (c := .slice q3 N3 d3) hk)
    have HE := Lib.hid hE2
    have HQ := Lib.hid (env_set (HB.out.trans (B3.out.mono HB.out.size)) (Nat.le_succ w.heap.size) (.slice q1 N4 d1) (.slice q2 N2 d2) (.slice q3 N3 d3))
    clear hk hE hE2
    go_wp2_with fail
    (try simp only [Exit.inBlock, Exit.then])
    refine bodyPost_ret (v := .agg #[.slice q1 N4 d1, .slice q2 N2 d2, .slice q3 N3 d3]) ?_ rfl ⟨_, rfl, HE.out, HQ.out⟩
    exact ret_env rfl HP.out rfl
end Go.Proofs.Ytbbopbbnhkcfdaa
