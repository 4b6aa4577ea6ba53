/-
  Proved: contract of env's look-up of a name among rows of api.Binding in order. Conditions: at most 1000 entries.
-/
import Derived.Test.YtbbopbbnhkcfdaaEnEnv
namespace Go.Proofs.Ytbbopbbnhkcfdaa
open Go Go.RowKit EnMath

theorem getV_any {E : Ev} (n : ByteArray) (v : Value) (w : World) (h : EnvAt w v E) (hf : Fit E) (ho : Ordd E.vars) :
    Calls Try.prog 15 #[v, .string n] w fun e w' => e = .returned (.tuple #[.string ((getM E.vars n).getD ⟨#[]⟩), .bool (getM E.vars n).isSome]) ∧ Below w.heap.size w w' := by
  obtain ⟨p1, c1, p2, c2, p3, c3, rfl, r1, r2, r3⟩ := h.shape
  obtain ⟨A, o, C, s⟩ := spl E.vars n ho
  rw [s.get]
  obtain ⟨W2, hW2⟩ : ∃ W, w.alloc (.cells #[.slice p1 E.vars.length c1, .slice p2 E.args.length c2, .slice p3 E.funs.length c3] 26) = W := ⟨_, rfl⟩
  have hb : Below w.heap.size w W2 := by rw [← hW2]; exact en_alloc (Below.refl _ w) _
  have hX : W2.heap[w.heap.size]? = some (.cells #[.slice p1 E.vars.length c1, .slice p2 E.args.length c2, .slice p3 E.funs.length c3] 26 (0, 0)) := by rw [← hW2]; exact heap_alloc_new w _
  have hXl : w.heap.size < W2.heap.size := (Array.getElem?_eq_some_iff.1 hX).1
  have k0 := cell_of_row W2 _ 0 _ _ _ hX
  have k1 : ∀ W, Below W2.heap.size W2 W → W.cell? ⟨w.heap.size, 0, none⟩ = some (.slice p1 E.vars.length c1) := fun W hW => cell_of_row W _ 0 _ _ _ ((hW.block _ hXl).trans hX)
  have HR := Lib.hid (r1.below hb (Nat.le_refl _))
  have HF := Lib.hid (findV_any s _ W2 (r1.below hb (Nat.le_refl _)) hf.1)
  have HB := Lib.hid hb
  have HK := Lib.hid k1
  have hlA := congrArg List.length s.is
  obtain ⟨N1, hN1⟩ : ∃ N, E.vars.length = N := ⟨_, rfl⟩
  obtain ⟨N2, hN2⟩ : ∃ N, E.args.length = N := ⟨_, rfl⟩
  obtain ⟨N3, hN3⟩ : ∃ N, E.funs.length = N := ⟨_, rfl⟩
  cases o with
  | none =>
    simp only [Option.isSome_none, Option.getD_none] at HF ⊢
    obtain ⟨M, hM⟩ : ∃ M, A.length = M := ⟨_, rfl⟩
    rw [hM] at HF
    rw [hN1] at hW2 ⊢
    rw [hN2] at hW2 ⊢
    rw [hN3] at hW2 ⊢
    rw [hN1] at HF k0
    clear h hf ho hX hXl k1 r1 r2 r3 hlA hM hb hN1 hN2 hN3 s
    go_enter Try.func15, Try.ntmps15
    go_wp2_with (first
      | (rw [hW2]; clear hW2)
      | (go_at_call 32; (refine HF.out.mono ?_); rintro e w3 ⟨rfl, hb3⟩; have HB3 := Lib.hid (HB.out.trans (hb3.mono HB.out.size)); clear hb3))
    go_ret2
    exact ⟨rfl, HB3.out⟩
  | some u =>
    have hx : E.vars[A.length]? = some (n, u) := by
      have := s.is
      rw [this, List.getElem?_append_right (Nat.le_refl _), Nat.sub_self]
      rfl
    obtain ⟨b0, o0, rfl, hcc⟩ := HR.out.get hx
    have d1 := hcc A.length (n, u) hx 1 _ rfl
    have hbl := World.block_lt_of_cell? _ _ d1
    have hD := Lib.hid (fun (W : World) (hW : Below W2.heap.size W2 W) => (World.cell?_of_block (hW.block b0 hbl)).trans d1)
    have hAN : A.length < E.vars.length := by rw [hlA]; simp [one]
    simp only [Option.isSome_some, Option.getD_some] at HF ⊢
    obtain ⟨M, hM⟩ : ∃ M, A.length = M := ⟨_, rfl⟩
    rw [hM] at HF hD hAN
    rw [hN1] at HF k0 hAN HK
    rw [hN1] at hW2 ⊢
    rw [hN2] at hW2 ⊢
    rw [hN3] at hW2 ⊢
    have h0 : (0 : Int) ≤ (M : Int) := by omega
    have h1 : (M : Int) < (N1 : Int) := by omega
    clear h hf ho hX hXl k1 r1 r2 r3 hlA hM hb hN1 hN2 hN3 hcc hx hAN d1 hbl HR s
    go_enter Try.func15, Try.ntmps15
    go_wp2_with (first
      | (rw [hW2]; clear hW2)
      | (go_at_call 32; (refine HF.out.mono ?_); rintro e w3 ⟨rfl, hb3⟩; have k0 := HK.out w3 hb3; have d1 := hD.out w3 hb3; have HB3 := Lib.hid (HB.out.trans (hb3.mono HB.out.size)); clear hb3))
    go_ret2
    exact ⟨rfl, HB3.out⟩
end Go.Proofs.Ytbbopbbnhkcfdaa
