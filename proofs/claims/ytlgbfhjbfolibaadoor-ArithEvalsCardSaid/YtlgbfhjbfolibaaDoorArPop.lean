/-
  Proved: the contract of a reckoner's pop. Conditions: it lies in memory; what is taken is there.
-/
import Derived.Test.YtlgbfhjbfolibaaDoorArTake
import Derived.Deep.RegionHeld3
namespace Go.Proofs.YtlgbfhjbfolibaaDoor
open Go Go.Shelf Go.RowKit ArMath

theorem sign_info : (Tryd.prog.info? 72).map (·.size) = some 2 := by kernel_rfl
theorem ret_sign {fn : Func} {p : Tmp} (hf : fn.results = #[.cell p 72]) {tmps : Array Value} {k : Nat} {a b : Value} {w : World} {t : TypeId} {fr : Nat × Nat} (h : w.heap[k]? = some (.cells #[a, b] t fr)) (h2 : tmps.getD p undef = .pointer (some ⟨k, 0, none⟩)) :
    (results fn tmps).run Tryd.prog w = .ok (.agg #[a, b]) w := results_cell_row hf tmps w k t #[a, b] fr _ h2 h Tryd.underlying72 rfl sign_info
section
variable {w : World} {X : Nat} {vs : Vars} {vv mm nn ss : Value} {s : St}
set_option maxRecDepth 8000 in
theorem pop_any {t : B} {k : Nat} {S : List (B × Nat)} (h : Rk w X vs vv mm nn ss s) (hn : s.signs = (t, k) :: S) :
    Calls Tryd.prog 43 #[.pointer (some ⟨X, 0, none⟩)] w fun e w' => e = .returned (.agg #[.string (tx t), .int .i64 (k : Int)]) ∧ (∃ ss', Rk w' X vs vv mm nn ss' { s with signs := S }) ∧ Below X w w' := by
  have hx := h.rws.signs
  rw [hn, List.reverse_cons, sgC_append, List.length_cons] at hx
  obtain ⟨g, cap, hv, hXg, hcap, hmax, hpop, hcell⟩ := owns_pop hx rfl
  have hg0 := hcell 0 (.string (tx t)) rfl
  have hg1 := hcell 1 (.int .i64 (k : Int)) rfl
  obtain ⟨c0, c1, c2, c3, c4, c5, hfz⟩ := ar_cell h.blk
  subst hv
  have HP := Lib.hid hpop
  have HH := Lib.hid h
  have HX := Lib.hid hXg
  have hlt := h.lt
  have hglt := (World.ownsRow.lt hpop g rfl).2
  obtain ⟨M, hM⟩ : ∃ M, S.length = M := ⟨_, rfl⟩
  have HM := Lib.hid hM
  rw [hM] at hcap hg0 hg1 c4
  have hMI : IntKind.i64.wrap (M : Int) = (M : Int) := IntWalk.i64_in _ (by unfold maxLen at hmax; omega)
  have e1 : (((M + 1 : Nat) : Int)) = (M : Int) + 1 := by omega
  have hM1 : (M : Int) < (M : Int) + 1 := by omega
  have hM2 : (M : Int) ≤ (cap : Int) := by omega
  have hM3 : (0 : Int) ≤ (M : Int) := by omega
  obtain ⟨T, hT⟩ : ∃ T, tx t = T := ⟨_, rfl⟩
  obtain ⟨K, hK⟩ : ∃ K : Int, (k : Int) = K := ⟨_, rfl⟩
  rw [hT] at hg0 ⊢
  rw [hK] at hg1 ⊢
  have f4 := hfz 4
  clear hx hpop hcell h hXg hM hmax hcap hT hK hfz
  go_enter Tryd.func43, Tryd.ntmps43
  go_wp2_with fail
  obtain ⟨W, hW⟩ : ∃ W, w.alloc (.cells #[.string ⟨#[]⟩, .int .i64 0] 72) = W := ⟨_, rfl⟩
  have hbW : Below w.heap.size w W := by rw [← hW]; exact (Below.refl _ w).alloc (Nat.le_refl _) _
  have d4 : W.cell? ⟨X, 4, none⟩ = some (.slice (some ⟨g, 0, none⟩) (M + 1) cap) := (World.cell?_of_block (hbW.block X hlt)).trans c4
  have k0 : W.cell? ⟨g, M * 2, none⟩ = some (.string T) := (World.cell?_of_block (hbW.block g hglt)).trans hg0
  have k1 : W.cell? ⟨g, M * 2 + 1, none⟩ = some (.int .i64 K) := (World.cell?_of_block (hbW.block g hglt)).trans hg1
  have HR := Lib.hid (show W.heap[w.heap.size]? = some (.cells #[.string ⟨#[]⟩, .int .i64 0] 72 (0, 0)) by rw [← hW]; exact heap_alloc_new w _)
  have HBW := Lib.hid hbW
  have HSW := Lib.hid (show W.heap.size = w.heap.size + 1 by rw [← hW]; simp)
  rw [hW]
  clear hW hbW
  have HS0 := Lib.hid (show W.cell? ⟨X, 4, none⟩ = some (.slice (some ⟨g, 0, none⟩) (M + 1) cap) ∧ W.cell? ⟨g, M * 2, none⟩ = some (.string T) ∧ W.cell? ⟨g, M * 2 + 1, none⟩ = some (.int .i64 K) from ⟨d4, k0, k1⟩)
  have HS1 := Lib.hid (fun (o : Obj) => (show (W.alloc o).cell? ⟨X, 4, none⟩ = some (.slice (some ⟨g, 0, none⟩) (M + 1) cap) ∧ (W.alloc o).cell? ⟨g, M * 2, none⟩ = some (.string T) ∧ (W.alloc o).cell? ⟨g, M * 2 + 1, none⟩ = some (.int .i64 K) from ⟨(World.cell?_of_block (Below.heap_alloc W o X (by have := HSW.out; omega))).trans d4, (World.cell?_of_block (Below.heap_alloc W o g (by have := HSW.out; omega))).trans k0, (World.cell?_of_block (Below.heap_alloc W o g (by have := HSW.out; omega))).trans k1⟩))
  go_region_held3 (fun V => V.cell? ⟨X, 4, none⟩ = some (.slice (some ⟨g, 0, none⟩) (M + 1) cap) ∧ V.cell? ⟨g, M * 2, none⟩ = some (.string T) ∧ V.cell? ⟨g, M * 2 + 1, none⟩ = some (.int .i64 K)) (first | assumption | exact HS0.out | exact HS1.out _) (fail)
  obtain ⟨V, hV⟩ : ∃ V, (W.alloc (.cells #[.string T, .int .i64 K] 72)).drew = V := ⟨_, rfl⟩
  have hbV : Below w.heap.size w V := by rw [← hV]; exact ar_drew (HBW.out.alloc (by have := HSW.out; omega) _)
  have v4 : V.cell? ⟨X, 4, none⟩ = some (.slice (some ⟨g, 0, none⟩) (M + 1) cap) := (World.cell?_of_block (hbV.block X hlt)).trans c4
  have vf4 : V.frozen? ⟨X, 4, none⟩ = false := (World.frozen?_of_block (hbV.block X hlt)).trans f4
  have hR2 : V.heap[w.heap.size]? = some (.cells #[.string ⟨#[]⟩, .int .i64 0] 72 (0, 0)) := by
    rw [← hV]
    exact (Below.heap_alloc W _ w.heap.size (by have := HSW.out; omega)).trans HR.out
  have hN2 : V.heap[W.heap.size]? = some (.cells #[.string T, .int .i64 K] 72 (0, 0)) := by
    rw [← hV]
    exact heap_alloc_new W _
  obtain ⟨Q, hQ⟩ : ∃ Q, W.heap.size = Q := ⟨_, rfl⟩
  obtain ⟨R, hRR⟩ : ∃ R, w.heap.size = R := ⟨_, rfl⟩
  have HQ := Lib.hid (And.intro hQ hRR)
  have HSW2 := Lib.hid (show Q = R + 1 by rw [← hQ, ← hRR]; exact HSW.out)
  have HLX := Lib.hid (show X < R by rw [← hRR]; exact hlt)
  rw [hV, hQ, hRR]
  rw [hRR] at hR2 hbV
  rw [hQ] at hN2
  have q0 := cell_of_row V Q 0 _ _ _ hN2
  have q1 := cell_of_row V Q 1 _ _ _ hN2
  have r0 := cell_of_row V R 0 _ _ _ hR2
  have r1 := cell_of_row V R 1 _ _ _ hR2
  have z0 : V.frozen? ⟨R, 0, none⟩ = false := Lib.frozen_of_heap hR2 0
  have z1 : V.frozen? ⟨R, 1, none⟩ = false := Lib.frozen_of_heap hR2 1
  simp only [List.getElem?_toArray, List.getElem?_cons_zero, List.getElem?_cons_succ] at q0 q1 r0 r1
  have HVB := Lib.hid hbV
  have HN2 := Lib.hid hN2
  have HR2 := Lib.hid hR2
  clear hV hbV hQ hRR hR2 hN2 HS0 HS1 d4 k0 k1 c0 c1 c2 c3 c4 c5 hg0 hg1 hlt hglt f4
  go_wp2_with fail
  refine wp_region_still_tail 14 (by kernel_rfl) (by kernel_rfl) ?_
  change wpStill _ _ V.drew _ _ _
  simp only [List.take_succ_cons, List.take_zero, List.drop_succ_cons, List.drop_zero]
  repeat still_step
  refine wpStill_nil ?_
  change wpList _ _ _ _ _ V.drew
  go_wp2_with fail
  obtain ⟨U, hU⟩ : ∃ U, V.setCell ⟨X, 4, none⟩ (.slice (some ⟨g, 0, none⟩) M cap) = U := ⟨_, rfl⟩
  rw [hU]
  have hXR := HLX.out
  have hUR : U.heap[R]? = some (.cells #[.string ⟨#[]⟩, .int .i64 0] 72 (0, 0)) := by rw [← hU]; exact (ar_other (by omega)).trans HR2.out
  have hER : ((U.setCell ⟨R, 0, none⟩ (.string T)).setCell ⟨R, 1, none⟩ (.int .i64 K)).drew.heap[R]? = some (.cells #[.string T, .int .i64 K] 72 (0, 0)) := by
    show ((U.setCell ⟨R, 0, none⟩ (.string T)).setCell ⟨R, 1, none⟩ (.int .i64 K)).heap[R]? = _
    simp [World.setCell, Array.getElem?_modify, hUR]
  have hold : ∀ k, k < R → X ≠ k → ((U.setCell ⟨R, 0, none⟩ (.string T)).setCell ⟨R, 1, none⟩ (.int .i64 K)).drew.heap[k]? = w.heap[k]? := fun k hk hn =>
    (Below.heap_setCell _ ⟨R, 1, none⟩ _ k (show k ≠ R by omega)).trans ((Below.heap_setCell U ⟨R, 0, none⟩ _ k (show k ≠ R by omega)).trans (by rw [← hU]; exact (ar_other hn).trans (HVB.out.block k (by have := HQ.out.2; omega))))
  have hEX : ArBlk ((U.setCell ⟨R, 0, none⟩ (.string T)).setCell ⟨R, 1, none⟩ (.int .i64 K)).drew X (tx s.left) vv mm nn (.slice (some ⟨g, 0, none⟩) M cap) s.bad := by
    refine (Below.heap_setCell _ ⟨R, 1, none⟩ _ X (show X ≠ R by omega)).trans ((Below.heap_setCell U ⟨R, 0, none⟩ _ X (show X ≠ R by omega)).trans ?_)
    rw [← hU]
    exact ar_set4 (l := tx s.left) (ss := .slice (some ⟨g, 0, none⟩) (S.length + 1) cap) ((HVB.out.block X (by have := HQ.out.2; omega)).trans HH.out.blk) _
  have hsz : w.heap.size ≤ V.heap.size := HVB.out.size
  refine bodyPost_ret (v := .agg #[.string T, .int .i64 K]) ?_ rfl ⟨rfl, ⟨_, hEX, ?_⟩, ?_⟩
  · exact ret_sign rfl hER rfl
  · have hr : Rws w X vs mm nn (.slice (some ⟨g, 0, none⟩) M cap) s.nums S := HH.out.rws.setS (by rw [← HM.out]; exact HP.out) rfl
    exact hr.same fun k h1 h2 => hold k (by have := HQ.out.2; omega) (by omega)
  · refine ⟨?_, ?_, ?_, ?_, fun k hk => hold k (by omega) (by omega)⟩
    · rw [← hU]; exact HVB.out.os
    · rw [← hU]; exact HVB.out.tape
    · rw [← hU]; exact HVB.out.output
    · rw [← hU]; simpa [World.setCell, World.drew] using hsz
end
end Go.Proofs.YtlgbfhjbfolibaaDoor
