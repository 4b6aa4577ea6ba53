/-
  Proved: contract of env.Is. Conditions: at most 1000 variables and functions.
-/
import Derived.Test.YtbbopbbnhkcfdaaEnOrdV
import Derived.Test.YtbbopbbnhkcfdaaEnOrdF
import Derived.Test.YtbbopbbnhkcfdaaEnEnv
namespace Go.Proofs.Ytbbopbbnhkcfdaa
open Go Go.RowKit EnMath

theorem is_any {E : Ev} (v : Value) (w : World) (h : EnvAt w v E) (h1 : E.vars.length ≤ 1000) (h3 : E.funs.length ≤ 1000) :
    Calls Try.prog 7 #[v] w fun e w' => e = .returned (.bool (isO E.vars && isO E.funs)) ∧ Below w.heap.size w w' := by
  obtain ⟨p1, c1, p2, c2, p3, c3, rfl, r1, r2, r3⟩ := h.shape
  obtain ⟨W2, hW2⟩ : ∃ W, w.alloc (.cells #[.slice p1 E.vars.length c1, .slice p2 E.args.length c2, .slice p3 E.funs.length c3] 26) = W := ⟨_, rfl⟩
  have hb : Below w.heap.size w W2 := by rw [← hW2]; exact en_alloc (Below.refl _ w) _
  have hX : W2.heap[w.heap.size]? = some (.cells #[.slice p1 E.vars.length c1, .slice p2 E.args.length c2, .slice p3 E.funs.length c3] 26 (0, 0)) := by rw [← hW2]; exact heap_alloc_new w _
  have hXl : w.heap.size < W2.heap.size := (Array.getElem?_eq_some_iff.1 hX).1
  have k0 := cell_of_row W2 _ 0 _ _ _ hX
  have k2 : ∀ W, Below W2.heap.size W2 W → W.cell? ⟨w.heap.size, 2, none⟩ = some (.slice p3 E.funs.length c3) := fun W hW => cell_of_row W _ 2 _ _ _ ((hW.block _ hXl).trans hX)
  have HV := Lib.hid (orderedV_any E.vars _ W2 (r1.below hb (Nat.le_refl _)) h1)
  have HF := Lib.hid (fun W (hW : Below W2.heap.size W2 W) => orderedF_any E.funs _ W ((r3.below hb (Nat.le_refl _)).below hW (Nat.le_refl _)) h3)
  have HB := Lib.hid hb
  have HK := Lib.hid k2
  obtain ⟨N1, hN1⟩ : ∃ N, E.vars.length = N := ⟨_, rfl⟩
  obtain ⟨N2, hN2⟩ : ∃ N, E.args.length = N := ⟨_, rfl⟩
  obtain ⟨N3, hN3⟩ : ∃ N, E.funs.length = N := ⟨_, rfl⟩
  obtain ⟨A, hA⟩ : ∃ A, isO E.vars = A := ⟨_, rfl⟩
  obtain ⟨B, hB⟩ : ∃ B, isO E.funs = B := ⟨_, rfl⟩
  rw [hA] at HV ⊢
  rw [hB] at HF ⊢
  rw [hN1] at hW2 HV k0 ⊢
  rw [hN2] at hW2 ⊢
  rw [hN3] at hW2 HF HK ⊢
  clear h h1 h3 hb hX hXl k2 r1 r2 r3 hN1 hN2 hN3 hA hB
  cases A
  · go_enter Try.func7, Try.ntmps7
    go_wp2_with (first
      | (rw [hW2]; clear hW2)
      | (go_at_call 22; (refine HV.out.mono ?_); rintro e w3 ⟨rfl, hb3⟩; have HB3 := Lib.hid (HB.out.trans (hb3.mono HB.out.size)); clear hb3))
    go_ret
    exact ⟨rfl, HB3.out⟩
  · go_enter Try.func7, Try.ntmps7
    go_wp2_with (first
      | (rw [hW2]; clear hW2)
      | (go_at_call 22; (refine HV.out.mono ?_); rintro e w3 ⟨rfl, hb3⟩; have k2 := HK.out w3 hb3; have HF3 := Lib.hid (HF.out w3 hb3); have HB3 := Lib.hid (HB.out.trans (hb3.mono HB.out.size)); clear hb3)
      | (go_at_call 24; (refine HF3.out.mono ?_); rintro e w4 ⟨rfl, hb4⟩; have HB4 := Lib.hid (HB3.out.trans (hb4.mono HB3.out.size)); clear hb4))
    go_ret
    exact ⟨rfl, HB4.out⟩
end Go.Proofs.Ytbbopbbnhkcfdaa
