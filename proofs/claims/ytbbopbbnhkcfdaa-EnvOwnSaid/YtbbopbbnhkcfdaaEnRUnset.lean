/-
  Proved: contract of the statements' own Unset. Conditions: at most 1000 variables.
-/
import Derived.Test.YtbbopbbnhkcfdaaEnRVar
namespace Go.Proofs.Ytbbopbbnhkcfdaa
open Go Go.RowKit EnMath

set_option maxHeartbeats 2000000 in
theorem runset_any {E : Ev} (n : ByteArray) (v : Value) (w : World) (h : EnvAt w v E) (hl : E.vars.length ≤ 1000) :
    Calls Try.prog 12 #[v, .string n] w fun e w' => ∃ v', e = .returned v' ∧ EnvAt w' v' { E with vars := delM E.vars n } ∧ Below w.heap.size w w' := by
  obtain ⟨p1, c1, p2, c2, p3, c3, rfl, r1, r2, r3⟩ := h.shape
  obtain ⟨W2, hW2⟩ : ∃ W, (w.alloc (.cells #[.slice p1 E.vars.length c1, .slice p2 E.args.length c2, .slice p3 E.funs.length c3] 26)).alloc (.cells #[.slice none 0 0, .slice none 0 0, .slice none 0 0] 26) = W := ⟨_, rfl⟩
  have hb : Below w.heap.size w W2 := by rw [← hW2]; exact en_alloc (en_alloc (Below.refl _ w) _) _
  have hX : W2.heap[w.heap.size]? = some (.cells #[.slice p1 E.vars.length c1, .slice p2 E.args.length c2, .slice p3 E.funs.length c3] 26 (0, 0)) := by rw [← hW2, Below.heap_alloc _ _ _ (by simp)]; exact heap_alloc_new w _
  have hY : W2.heap[w.heap.size + 1]? = some (.cells #[.slice none 0 0, .slice none 0 0, .slice none 0 0] 26 (0, 0)) := by
    have := heap_alloc_new (w.alloc (.cells #[.slice p1 E.vars.length c1, .slice p2 E.args.length c2, .slice p3 E.funs.length c3] 26)) (.cells #[.slice none 0 0, .slice none 0 0, .slice none 0 0] 26)
    rw [hW2] at this
    simpa using this
  have hXl : w.heap.size < W2.heap.size := (Array.getElem?_eq_some_iff.1 hX).1
  have hYl : w.heap.size + 1 < W2.heap.size := (Array.getElem?_eq_some_iff.1 hY).1
  have HR := Lib.hid (And.intro (r1.below hb (Nat.le_refl _)) (And.intro (r2.below hb (Nat.le_refl _)) (r3.below hb (Nat.le_refl _))))
  have HB := Lib.hid hb
  have HXY := Lib.hid (And.intro hX (And.intro hY (And.intro hXl hYl)))
  obtain ⟨i0, hi, hz0, hz1, hz2⟩ := info_parts infoV
  have HI := Lib.hid (And.intro hi (And.intro hz0 (And.intro hz1 hz2)))
  obtain ⟨N1, hN1⟩ : ∃ N, E.vars.length = N := ⟨_, rfl⟩
  obtain ⟨N2, hN2⟩ : ∃ N, E.args.length = N := ⟨_, rfl⟩
  obtain ⟨N3, hN3⟩ : ∃ N, E.funs.length = N := ⟨_, rfl⟩
  have HN := Lib.hid hN1
  rw [hN1, hN2, hN3] at hW2 HR HXY
  rw [hN1, hN2, hN3]
  rw [hN1] at hl
  have HK := Lib.hid (fun (W : World) (hW : Below W2.heap.size W2 W) => (show W.cell? ⟨w.heap.size, 0, none⟩ = some (.slice p1 N1 c1) ∧ W.cell? ⟨w.heap.size, 1, none⟩ = some (.slice p2 N2 c2) ∧ W.cell? ⟨w.heap.size, 2, none⟩ = some (.slice p3 N3 c3) from by
    have g1 := (hW.block _ HXY.out.2.2.1).trans HXY.out.1
    exact ⟨cell_of_row _ _ 0 _ _ _ g1, cell_of_row _ _ 1 _ _ _ g1, cell_of_row _ _ 2 _ _ _ g1⟩))
  clear h hb hX hY hXl hYl r1 r2 r3 hN1 hN2 hN3 hi hz0 hz1 hz2
  go_enter Try.func12, Try.ntmps12
  go_wp2_with (rw [hW2]; clear hW2)
  go_loopw [5, 6] (fun v i wr => ∃ k : Nat, i = .int .i64 (k : Int) ∧ k ≤ N1 ∧ wr.ownsRow W2.heap.size 44 2 v (delM (E.vars.take k) n).length ((delM (E.vars.take k) n).flatMap bC) ∧ Below W2.heap.size W2 wr) (fun _ i _ => N1 - (intOf i).toNat)
  case atStart => exact ⟨0, rfl, by omega, World.ownsRow_nil _ _ _ _, Below.refl _ _⟩
  case round =>
    obtain ⟨k, rfl, hk, hown, hbw⟩ := hrel
    have HW := Lib.hid hbw
    have HO := Lib.hid hown
    have hk0 : (0 : Int) ≤ (k : Int) := by omega
    have hk9 : (k : Int) ≤ 1000 := by omega
    obtain ⟨k0, k1, k2⟩ := HK.out wr hbw
    clear hown hbw
    by_cases hlt : k < N1
    · obtain ⟨x, hx⟩ : ∃ x, E.vars[k]? = some x := ⟨_, List.getElem?_eq_getElem (by rw [HN.out]; omega)⟩
      obtain ⟨b1, o1, rfl, hc1⟩ := (HR.out.1.below HW.out (Nat.le_refl _)).get hx
      have e1 := hc1 k x hx 0 _ rfl
      have e2 := hc1 k x hx 1 _ rfl
      rw [Nat.add_zero] at e1
      have htk : E.vars.take (k + 1) = E.vars.take k ++ [x] := by rw [List.take_add_one, hx]; rfl
      have hde := del_snoc (E.vars.take k) x n
      rw [← htk] at hde
      obtain ⟨x1, x2⟩ := x
      have hI : (k : Int) < (N1 : Int) := by omega
      have hlen := del_len (E.vars.take k) n
      rw [List.length_take] at hlen
      clear hc1 hx htk k1 k2
      cases hc : eqN x1 n
      · have hz : (x1.toList == n.toList) = false := hc
        rw [hc, if_neg (by simp)] at hde
        obtain ⟨J, hJ⟩ : ∃ J, delM (E.vars.take (k + 1)) n = J := ⟨_, rfl⟩
        rw [hJ] at hde
        obtain ⟨D, hD⟩ : ∃ D, delM (E.vars.take k) n = D := ⟨_, rfl⟩
        rw [hD] at hde HO hlen
        have HJ := Lib.hid (And.intro hJ hde.symm)
        have HL := Lib.hid (show D.length ≤ 1000 by omega)
        have HOA := Lib.hid (fun o => HO.out.alloc o)
        have HSZ := Lib.hid (show ∀ o, W2.heap.size ≤ (wr.alloc o).heap.size from fun o => by have := HW.out.size; simp; omega)
        clear hde hJ hD hlen hc
        go_wp2_with (at_builtin; refine wpList_append_rd _ rfl _ _ 22 rfl 44 i0 _ 32 Try.underlying22 HI.out.1 HI.out.2.1 HI.out.2.2.1 HI.out.2.2.2 rfl bE W2.heap.size _ D [(x1, x2)] rfl (HOA.out _) _ rfl (Rd.one wr rfl _ (x1, x2) rfl) (by have := HL.out; simp; omega) (by have := HL.out; unfold maxLen; simp; omega) (HSZ.out _) J HJ.out.2 ?_)
        intro v' w' ho3 hg3
        have HB3 := Lib.hid (And.intro ho3 ((en_alloc HW.out _).grown hg3 (HSZ.out _) (fun k hk => (HO.out.lt k hk).1)))
        clear ho3 hg3
        go_wp2_with fail
        exact ⟨⟨k + 1, by go_num, by omega, by rw [HJ.out.1]; exact HB3.out.1, HB3.out.2⟩, by simp [intOf]; omega⟩
      · have hz : (x1.toList == n.toList) = true := hc
        rw [hc, if_pos rfl] at hde
        have HJ := Lib.hid hde
        clear hde hc hlen
        go_wp2_with fail
        exact ⟨⟨k + 1, by go_num, by omega, by rw [HJ.out]; exact HO.out, HW.out⟩, by simp [intOf]; omega⟩
    · have hI : ¬ ((k : Int) < (N1 : Int)) := by omega
      have htk : E.vars.take k = E.vars := List.take_of_length_le (by rw [HN.out]; omega)
      rw [htk] at HO
      have hrd := Rd.of_own bE HO.out
      obtain ⟨q, d, rfl⟩ := hrd.shape
      have hX := (HW.out.block _ HXY.out.2.2.1).trans HXY.out.1
      have hY := (HW.out.block _ HXY.out.2.2.2).trans HXY.out.2.1
      obtain ⟨N4, hN4⟩ : ∃ N, (delM E.vars n).length = N := ⟨_, rfl⟩
      rw [hN4] at hrd
      rw [hN4]
      have HE := Lib.hid (env_first (v := .slice q N4 d) (E := ⟨delM E.vars n, E.args, E.funs⟩) hX hY hrd (HR.out.2.1.below HW.out (Nat.le_refl _)) (HR.out.2.2.below HW.out (Nat.le_refl _)))
      have f0 := frozen_of_row _ _ 0 _ _ hX
      have y0 := cell_of_row _ _ 0 _ _ _ hY
      have y1 := cell_of_row _ _ 1 _ _ _ hY
      have y2 := cell_of_row _ _ 2 _ _ _ hY
      have z0 := frozen_of_row _ _ 0 _ _ hY
      have z1 := frozen_of_row _ _ 1 _ _ hY
      have z2 := frozen_of_row _ _ 2 _ _ hY
      have HQ := Lib.hid (env_set (k := w.heap.size + 1) ((HB.out.trans (HW.out.mono HB.out.size)).setCell (p := ⟨w.heap.size, 0, none⟩) (Nat.le_refl _) (.slice q N4 d)) (Nat.le_succ _) (.slice q N4 d) (.slice p2 N2 c2) (.slice p3 N3 c3))
      clear hrd hX hY htk hN4
      go_wp2_with fail
      (try simp only [Exit.inBlock, Exit.then])
      refine bodyPost_ret (v := .agg #[.slice q N4 d, .slice p2 N2 c2, .slice p3 N3 c3]) ?_ rfl ⟨_, rfl, HE.out.1, HQ.out⟩
      exact ret_env rfl HE.out.2 rfl
end Go.Proofs.Ytbbopbbnhkcfdaa
