/-
  Proved: contract of lazarus/lazarusref14's Arg. Conditions: the arguments fit into 2^47 bytes.
-/
import Derived.Test.YtbbopbbnhkcfdaaEnArg
namespace Go.Proofs.Ytbbopbbnhkcfdaa
open Go Go.RowKit EnMath

theorem rarg_any {E : Ev} (i : Int) (v : Value) (w : World) (h : EnvAt w v E) :
    Calls Try.prog 20 #[v, .int .i64 i] w fun e w' => e = .returned (.tuple #[.string ((argM E i).getD ⟨#[]⟩), .bool (argM E i).isSome]) ∧ Below w.heap.size w w' := by
  obtain ⟨p1, c1, p2, c2, p3, c3, rfl, r1, r2, r3⟩ := h.shape
  obtain ⟨W2, hW2⟩ : ∃ W, w.alloc (.cells #[.slice p1 E.vars.length c1, .slice p2 E.args.length c2, .slice p3 E.funs.length c3] 26) = W := ⟨_, rfl⟩
  have hb : Below w.heap.size w W2 := by rw [← hW2]; exact en_alloc (Below.refl _ w) _
  have hX : W2.heap[w.heap.size]? = some (.cells #[.slice p1 E.vars.length c1, .slice p2 E.args.length c2, .slice p3 E.funs.length c3] 26 (0, 0)) := by rw [← hW2]; exact heap_alloc_new w _
  have k1 := cell_of_row W2 _ 1 _ _ _ hX
  have HR := r2.below hb (Nat.le_refl _)
  have HB := Lib.hid hb
  obtain ⟨N1, hN1⟩ : ∃ N, E.vars.length = N := ⟨_, rfl⟩
  obtain ⟨N2, hN2⟩ : ∃ N, E.args.length = N := ⟨_, rfl⟩
  obtain ⟨N3, hN3⟩ : ∃ N, E.funs.length = N := ⟨_, rfl⟩
  have hroom := r2.room
  unfold maxLen at hroom
  by_cases hi : i < 1
  · have hM : argM E i = none := by unfold argM; rw [if_pos hi]
    rw [hM]
    rw [hN1, hN2, hN3] at hW2 ⊢
    rw [hN2] at k1
    clear h hb hX r1 r2 r3 HR hN1 hN2 hN3 hM hroom
    go_enter Try.func20, Try.ntmps20
    go_wp2_with (rw [hW2]; clear hW2)
    go_ret2
    exact ⟨rfl, HB.out⟩
  · by_cases hn : (N2 : Int) < i
    · have hM : argM E i = none := by
        unfold argM
        rw [if_neg hi]
        exact List.getElem?_eq_none (by omega)
      rw [hM]
      rw [hN1, hN2, hN3] at hW2 ⊢
      rw [hN2] at k1
      clear h hb hX r1 r2 r3 HR hN1 hN2 hN3 hM hroom
      go_enter Try.func20, Try.ntmps20
      go_wp2_with (rw [hW2]; clear hW2)
      go_ret2
      exact ⟨rfl, HB.out⟩
    · obtain ⟨j, hj⟩ : ∃ j : Nat, i = (j : Int) + 1 := ⟨(i - 1).toNat, by omega⟩
      obtain ⟨x, hx⟩ : ∃ x, E.args[j]? = some x := ⟨_, List.getElem?_eq_getElem (by omega)⟩
      have hM : argM E i = some x := by
        unfold argM
        rw [if_neg hi, hj, show ((j : Int) + 1 - 1).toNat = j by omega]
        exact hx
      rw [hM]
      obtain ⟨b0, o0, rfl, hcc⟩ := HR.get hx
      have d0 := hcc j x hx 0 _ rfl
      rw [Nat.mul_one, Nat.add_zero] at d0
      rw [hN1, hN2, hN3] at hW2 ⊢
      rw [hN2] at k1
      subst hj
      have hj0 : (0 : Int) ≤ (j : Int) := by omega
      have hjN : (j : Int) < (N2 : Int) := by omega
      have hjM : (j : Int) + 1 ≤ 9223372036854775807 := by omega
      clear h hb hX r1 r2 r3 HR hN1 hN2 hN3 hM hroom hcc hx
      go_enter Try.func20, Try.ntmps20
      go_wp2_with (rw [hW2]; clear hW2)
      go_ret2
      exact ⟨rfl, HB.out⟩
end Go.Proofs.Ytbbopbbnhkcfdaa
