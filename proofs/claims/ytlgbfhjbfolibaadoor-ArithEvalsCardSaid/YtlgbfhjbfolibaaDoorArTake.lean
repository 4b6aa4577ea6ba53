/-
  Proved: contracts of a reckoner's take, last. Conditions: it lies in memory; what is taken is there.
-/
import Derived.Test.YtlgbfhjbfolibaaDoorArMem
import Derived.BigQuiet
import Derived.Deep.QuietTactic
namespace Go.Proofs.YtlgbfhjbfolibaaDoor
open Go Go.Shelf Go.RowKit ArMath

section
variable {w : World} {X : Nat} {vs : Vars} {vv mm nn ss : Value} {s : St}
set_option maxRecDepth 8000 in
theorem take_any {n : Int} {N : List Int} (h : Rk w X vs vv mm nn ss s) (hn : s.nums = n :: N) :
    Calls Tryd.prog 15 #[.pointer (some ⟨X, 0, none⟩)] w fun e w' => e = .returned (.int .i64 n) ∧ (∃ nn', Rk w' X vs vv mm nn' ss { s with nums := N } ∧ nn'.ownBlock = nn.ownBlock) ∧ Below X w w' ∧ ∀ k, X ≠ k → w'.heap[k]? = w.heap[k]? := by
  have hx := h.rws.nums
  rw [hn, List.reverse_cons, numC_add, List.length_cons] at hx
  obtain ⟨g, cap, hv, hXg, hcap, hmax, hpop, hcell⟩ := owns_pop hx (by simp)
  have hg := hcell 0 (.int .i64 n) rfl
  rw [Nat.mul_one, Nat.add_zero] at hg
  obtain ⟨c0, c1, c2, c3, c4, c5, hfz⟩ := ar_cell h.blk
  subst hv
  have HP := Lib.hid hpop
  have HH := Lib.hid h
  have HX := Lib.hid hXg
  obtain ⟨M, hM⟩ : ∃ M, N.length = M := ⟨_, rfl⟩
  have HM := Lib.hid hM
  rw [hM] at hcap hg c3
  have hMI : IntKind.i64.wrap (M : Int) = (M : Int) := IntWalk.i64_in _ (by unfold maxLen at hmax; omega)
  have e1 : (((M + 1 : Nat) : Int)) = (M : Int) + 1 := by omega
  have hM1 : (M : Int) < (M : Int) + 1 := by omega
  have hM2 : (M : Int) ≤ (cap : Int) := by omega
  have hM3 : (0 : Int) ≤ (M : Int) := by omega
  clear hx hpop hcell h hXg hM hmax hcap
  go_enter Tryd.func15, Tryd.ntmps15
  go_wp2_with fail
  go_quiet (fail)
  obtain ⟨W, hW⟩ : ∃ W, w.drewN nq = W := ⟨_, rfl⟩
  have HW := Lib.hid hW
  have d3 : W.cell? ⟨X, 3, none⟩ = some (.slice (some ⟨g, 0, none⟩) (M + 1) cap) := by rw [← hW]; exact c3
  have f3 : W.frozen? ⟨X, 3, none⟩ = false := by rw [← hW]; exact hfz 3
  rw [hW]
  clear hW
  go_wp2_with fail
  refine wp_region_still_tail 14 (by kernel_rfl) (by kernel_rfl) ?_
  change wpStill _ _ W.drew _ _ _
  simp only [List.take_succ_cons, List.take_zero, List.drop_succ_cons, List.drop_zero]
  repeat still_step
  refine wpStill_nil ?_
  change wpList _ _ _ _ _ W.drew
  go_wp2_with fail
  go_ret
  refine ⟨rfl, ⟨.slice (some ⟨g, 0, none⟩) M cap, ?_, rfl⟩, ?_, ?_⟩
  · have hR := HH.out
    have hW := HW.out
    subst hW
    have hs : ({ s with nums := N } : St).nums = N := rfl
    have hr : Rws w X vs mm (.slice (some ⟨g, 0, none⟩) M cap) ss N s.signs := hR.rws.setN (by rw [← HM.out]; exact HP.out) rfl fun x hx => hR.rws.i64 x (by rw [hn]; exact List.mem_cons_of_mem _ hx)
    refine Rk.drew ⟨ar_set3 (w := w.drewN nq) hR.blk _, Rws.setX (w := w.drewN nq) (hr.same fun _ _ _ => rfl)⟩
  · have hW := HW.out
    subst hW
    exact ar_drew (ar_below (ar_drewN _ _ _))
  · have hW := HW.out
    subst hW
    exact fun k hk => ar_other (w := w.drewN nq) hk
set_option maxRecDepth 8000 in
theorem last_any (h : Rk w X vs vv mm nn ss s) :
    Calls Tryd.prog 44 #[.pointer (some ⟨X, 0, none⟩)] w fun e w' => e = .returned (.int .i64 (lastL s.signs : Int)) ∧ Below w.heap.size w w' := by
  obtain ⟨c0, c1, c2, c3, c4, c5, hfz⟩ := ar_cell h.blk
  have hx := h.rws.signs
  obtain ⟨S, hS⟩ : ∃ S, s.signs = S := ⟨_, rfl⟩
  rw [hS] at hx ⊢
  match S, hx with
  | [], hx =>
    obtain ⟨p, c, rfl⟩ : ∃ p c, ss = .slice p 0 c := by
      rcases hx.2 with ⟨hv, _⟩ | ⟨g, cap, cur, hv, _⟩
      · exact ⟨_, _, hv⟩
      · exact ⟨_, _, hv⟩
    have HB := Lib.hid (Below.refl w.heap.size w)
    clear hx h hS
    go_enter Tryd.func44, Tryd.ntmps44
    go_wp2_with fail
    go_ret
    exact ⟨rfl, HB.out⟩
  | (t, k) :: S, hx =>
    rw [List.reverse_cons, sgC_append, List.length_cons] at hx
    obtain ⟨g, cap, hv, hXg, hcap, hmax, hpop, hcell⟩ := owns_pop hx rfl
    have hg := hcell 1 (.int .i64 (k : Int)) rfl
    subst hv
    obtain ⟨M, hM⟩ : ∃ M, S.length = M := ⟨_, rfl⟩
    rw [hM] at hcap hg c4
    have hMI : IntKind.i64.wrap (M : Int) = (M : Int) := IntWalk.i64_in _ (by unfold maxLen at hmax; omega)
    have e1 : (((M + 1 : Nat) : Int)) = (M : Int) + 1 := by omega
    have hM1 : (M : Int) < (M : Int) + 1 := by omega
    have hM2 : (M : Int) ≤ (cap : Int) := by omega
    have hM3 : (0 : Int) ≤ (M : Int) := by omega
    have hM4 : ((M : Int) + 1 == 0) = false := by
      have : ¬ ((M : Int) + 1 = 0) := by omega
      simpa using this
    obtain ⟨K, hK⟩ : ∃ K : Int, (k : Int) = K := ⟨_, rfl⟩
    rw [hK] at hg
    have HK := Lib.hid hK
    clear hx hpop hcell h hXg hM hmax hcap hS hK
    go_enter Tryd.func44, Tryd.ntmps44
    go_wp2_with fail
    go_quiet (fail)
    go_wp2_with fail
    go_ret
    exact ⟨ret_int HK.out.symm, ar_drewN _ _ _⟩
end
end Go.Proofs.YtlgbfhjbfolibaaDoor
