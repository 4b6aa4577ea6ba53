/-
  Proved: a contract of tree's Is. Conditions: the nodes lie in memory, the program's shapes lie as they should.
-/
import Derived.Test.YtloaalapkmbgeaaDoorTreeNode
namespace Go.Proofs.YtloaalapkmbgeaaDoor
open Go Go.RowKit GlyphMath LexMath TreeMath

set_option maxHeartbeats 1000000 in
set_option maxRecDepth 100000 in
theorem is_any (ns : List Nd) (root : Int) (np : Option Addr) (nc : Nat) (w : World) (hN : NsAt w (.slice np ns.length nc) ns) (hS : Shapes w) (hsm : ∀ n ∈ ns, NSmall n) :
    Calls Tryd.prog 8 #[.agg #[.slice np ns.length nc, .int .i64 root]] w fun e w' => e = .returned (.bool (isT ns root)) ∧ Below w.heap.size w w' := by
  have HB := Lib.hid (fun o => below_one w o)
  obtain ⟨R, hR⟩ : ∃ R, isT ns root = R := ⟨_, rfl⟩
  have HR := Lib.hid (show (decide (ns.length ≤ 200) && (walkT ns ns.length root 0 == some ns.length)) = R from hR)
  rw [hR]
  by_cases hl : ns.length ≤ 200
  · have HI := Lib.hid (show ∀ o, Calls Tryd.prog 15 #[.pointer (some ⟨w.heap.size + 1, 0, none⟩), .int .i64 root] ((w.alloc o).alloc (.cells #[.slice np ns.length nc, .int .i64 0] 41)) fun e w' => Below (w.alloc o).heap.size (w.alloc o) w' ∧ NodeEnd (w.heap.size + 1) (.slice np ns.length nc) (walkT ns ns.length root 0) e w' from fun o => by
      have hs : (w.alloc o).heap.size = w.heap.size + 1 := World.size_alloc w o
      have h1 := node_any (w0 := w.alloc o) (X := w.heap.size + 1) (hN.below (below_one w o)) (hS.below (below_one w o)) hsm (by rw [hs]; exact Nat.le_refl _) (by omega) ns.length root 0 ((w.alloc o).alloc (.cells #[.slice np ns.length nc, .int .i64 0] 41)) (below_one _ _) (by have := heap_alloc_new (w.alloc o) (.cells #[.slice np ns.length nc, .int .i64 0] 41); rwa [hs] at this) (by omega)
      exact h1.mono fun e w' ⟨_, h2, h3⟩ => ⟨h2, h3⟩)
    have HRW := Lib.hid (show (walkT ns ns.length root 0 == some ns.length) = R by rw [← HR.out, decide_eq_true hl, Bool.true_and])
    have hli : ¬ (200 : Int) < (ns.length : Int) := by omega
    have hcw := fun (o : Value) (W : World) (h : Below (w.alloc (.cells #[.slice np ns.length nc, o] 24)).heap.size (w.alloc (.cells #[.slice np ns.length nc, o] 24)) W) => cell_below (cell_plain (heap_alloc_new w (.cells #[.slice np ns.length nc, o] 24)) 0) h
    have HCW := Lib.hid (show ∀ (o : Value) (W : World), Below (w.alloc (.cells #[.slice np ns.length nc, o] 24)).heap.size (w.alloc (.cells #[.slice np ns.length nc, o] 24)) W → W.cell? ⟨w.heap.size, 0, none⟩ = some (.slice np ns.length nc) from hcw)
    obtain ⟨M, hM⟩ : ∃ M, walkT ns ns.length root 0 = M := ⟨_, rfl⟩
    rw [hM] at HI HRW
    generalize ns.length = N at HI HRW hli HCW ⊢
    clear hR hN hS hsm hl HR hM hcw
    cases M with
    | none =>
      have HRn := Lib.hid (show false = R from HRW.out)
      clear HRW
      go_enter Tryd.func8, Tryd.ntmps8
      go_wp2_with (go_at_call 15; refine (HI.out _).mono ?_; rintro e w2 ⟨hb, rfl⟩; have HB2 := Lib.hid hb; clear hb)
      go_ret
      exact ⟨ret_bool HRn.out, (HB.out _).trans (HB2.out.mono (HB.out _).size)⟩
    | some m =>
      have HRn := Lib.hid (show (m == N) = R from by rw [← HRW.out]; simp)
      clear HRW
      go_enter Tryd.func8, Tryd.ntmps8
      go_wp2_with (go_at_call 15; refine (HI.out _).mono ?_; rintro e w2 ⟨hb, rfl, hx⟩; have x1 := cell_plain hx 1; have x2 := HCW.out _ _ hb; have HB2 := Lib.hid hb; clear hb hx)
      go_ret
      exact ⟨ret_bool (by rw [← HRn.out, ← nat_beq]), (HB.out _).trans (HB2.out.mono (HB.out _).size)⟩
  · have HRn := Lib.hid (show false = R by rw [← HR.out, decide_eq_false hl]; rfl)
    have hli : (200 : Int) < (ns.length : Int) := by omega
    generalize ns.length = N at hli ⊢
    clear hR hN hS hsm hl
    go_enter Tryd.func8, Tryd.ntmps8
    go_wp2_with fail
    go_ret
    exact ⟨ret_bool HRn.out, HB.out _⟩
end Go.Proofs.YtloaalapkmbgeaaDoor
