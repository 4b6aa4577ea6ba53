/-
  Proved: contract of the statements' own look-up of a name among rows of api.Fun. Conditions: at most 1000 entries.
-/
import Derived.Test.YtbbopbbnhkcfdaaEnEnv
namespace Go.Proofs.Ytbbopbbnhkcfdaa
open Go Go.RowKit EnMath

theorem rgetF_any {E : Ev} (n : ByteArray) (v : Value) (w : World) (h : EnvAt w v E) (hf : Fit E) :
    Calls Try.prog 18 #[v, .string n] w fun e w' => e = .returned (.tuple #[.int .i64 ((getM E.funs n).getD 0), .bool (getM E.funs n).isSome]) ∧ Below w.heap.size w w' := by
  obtain ⟨p1, c1, p2, c2, p3, c3, rfl, r1, r2, r3⟩ := h.shape
  obtain ⟨W2, hW2⟩ : ∃ W, w.alloc (.cells #[.slice p1 E.vars.length c1, .slice p2 E.args.length c2, .slice p3 E.funs.length c3] 26) = W := ⟨_, rfl⟩
  have hb : Below w.heap.size w W2 := by rw [← hW2]; exact en_alloc (Below.refl _ w) _
  have hX : W2.heap[w.heap.size]? = some (.cells #[.slice p1 E.vars.length c1, .slice p2 E.args.length c2, .slice p3 E.funs.length c3] 26 (0, 0)) := by rw [← hW2]; exact heap_alloc_new w _
  have k0 := cell_of_row W2 _ 2 _ _ _ hX
  have HR := Lib.hid (r3.below hb (Nat.le_refl _))
  have HB := Lib.hid hb
  have hl : E.funs.length ≤ 1000 := hf.2.1
  obtain ⟨G, hG⟩ : ∃ G, getM E.funs n = G := ⟨_, rfl⟩
  have HG := Lib.hid hG
  rw [hG]
  obtain ⟨N1, hN1⟩ : ∃ N, E.vars.length = N := ⟨_, rfl⟩
  obtain ⟨N2, hN2⟩ : ∃ N, E.args.length = N := ⟨_, rfl⟩
  obtain ⟨N3, hN3⟩ : ∃ N, E.funs.length = N := ⟨_, rfl⟩
  have HN := Lib.hid hN3
  rw [hN1, hN2, hN3] at hW2 ⊢
  rw [hN3] at k0 hl
  clear h hf hb hX r1 r2 r3 hN1 hN2 hN3 hG
  go_enter Try.func18, Try.ntmps18
  go_wp2_with (rw [hW2]; clear hW2)
  go_loopw [6] (fun v wr => ∃ i : Nat, v = .int .i64 (i : Int) ∧ i ≤ N3 ∧ getM (E.funs.drop i) n = G ∧ W2 = wr) (fun v _ => N3 - (intOf v).toNat)
  case atStart => exact ⟨0, rfl, by omega, HG.out, rfl⟩
  case round =>
    obtain ⟨i, rfl, hi, hg, rfl⟩ := hrel
    have hi0 : (0 : Int) ≤ (i : Int) := by omega
    have hi9 : (i : Int) ≤ 1000 := by omega
    by_cases hlt : i < N3
    · obtain ⟨x, hx⟩ : ∃ x, E.funs[i]? = some x := ⟨_, List.getElem?_eq_getElem (by rw [HN.out]; omega)⟩
      have hdr : E.funs.drop i = x :: E.funs.drop (i + 1) := by
        obtain ⟨h1, h2⟩ := List.getElem?_eq_some_iff.1 hx
        rw [List.drop_eq_getElem_cons h1, h2]
      rw [hdr, getM] at hg
      obtain ⟨b0, o0, rfl, hcc⟩ := HR.out.get hx
      have d0 := hcc i x hx 0 _ rfl
      have d1 := hcc i x hx 1 _ rfl
      rw [Nat.add_zero] at d0
      obtain ⟨x1, x2⟩ := x
      have hI : (i : Int) < (N3 : Int) := by omega
      clear hcc hx hdr
      cases hc : eqN x1 n
      · rw [hc, if_neg (by simp)] at hg
        have hz : (x1.toList == n.toList) = false := hc
        have HG' := Lib.hid hg
        clear hg hc
        go_wp2_with fail
        exact ⟨⟨i + 1, by go_num, by omega, HG'.out, by trivial⟩, by simp [intOf]; omega⟩
      · rw [hc, if_pos rfl] at hg
        have hz : (x1.toList == n.toList) = true := hc
        have HG' := Lib.hid hg
        clear hg hc
        go_wp2_with fail
        go_ret2
        rw [← HG'.out]
        exact ⟨rfl, HB.out⟩
    · have hg' : none = G := by
        rw [← hg, List.drop_eq_nil_of_le (by rw [HN.out]; omega)]
        rfl
      have HG' := Lib.hid hg'
      have hI : ¬ ((i : Int) < (N3 : Int)) := by omega
      clear hg hg'
      go_wp2_with fail
      go_ret2
      rw [← HG'.out]
      exact ⟨rfl, HB.out⟩
end Go.Proofs.Ytbbopbbnhkcfdaa
