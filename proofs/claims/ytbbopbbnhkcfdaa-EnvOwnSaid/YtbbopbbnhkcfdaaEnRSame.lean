/-
  Proved: contract of the statements' own Same. Conditions: the arguments fit into 2^47 bytes; at most 1000 functions.
-/
import Derived.Test.YtbbopbbnhkcfdaaEnEnv
import Derived.Test.YtbbopbbnhkcfdaaEnRVars
import Derived.Test.YtbbopbbnhkcfdaaEnRTexts
import Derived.Test.YtbbopbbnhkcfdaaEnNeqF
namespace Go.Proofs.Ytbbopbbnhkcfdaa
open Go Go.RowKit EnMath

set_option maxHeartbeats 2000000 in
theorem rsame_any {A B : Ev} (va vb : Value) (w : World) (ha : EnvAt w va A) (hb : EnvAt w vb B) (hf : Fit A) :
    Calls Try.prog 21 #[va, vb] w fun e w' => e = .returned (.bool (decide (A = B))) ∧ Below w.heap.size w w' := by
  obtain ⟨p1, c1, p2, c2, p3, c3, rfl, r1, r2, r3⟩ := ha.shape
  obtain ⟨q1, d1, q2, d2, q3, d3, rfl, s1, s2, s3⟩ := hb.shape
  obtain ⟨W2, hW2⟩ : ∃ W, (w.alloc (.cells #[.slice p1 A.vars.length c1, .slice p2 A.args.length c2, .slice p3 A.funs.length c3] 26)).alloc (.cells #[.slice q1 B.vars.length d1, .slice q2 B.args.length d2, .slice q3 B.funs.length d3] 26) = W := ⟨_, rfl⟩
  have hw : Below w.heap.size w W2 := by rw [← hW2]; exact en_alloc (en_alloc (Below.refl _ w) _) _
  have hX : W2.heap[w.heap.size]? = some (.cells #[.slice p1 A.vars.length c1, .slice p2 A.args.length c2, .slice p3 A.funs.length c3] 26 (0, 0)) := by rw [← hW2, Below.heap_alloc _ _ _ (by simp)]; exact heap_alloc_new w _
  have hY : W2.heap[w.heap.size + 1]? = some (.cells #[.slice q1 B.vars.length d1, .slice q2 B.args.length d2, .slice q3 B.funs.length d3] 26 (0, 0)) := by
    have := heap_alloc_new (w.alloc (.cells #[.slice p1 A.vars.length c1, .slice p2 A.args.length c2, .slice p3 A.funs.length c3] 26)) (.cells #[.slice q1 B.vars.length d1, .slice q2 B.args.length d2, .slice q3 B.funs.length d3] 26)
    rw [hW2] at this
    simpa using this
  have hXl : w.heap.size < W2.heap.size := (Array.getElem?_eq_some_iff.1 hX).1
  have hYl : w.heap.size + 1 < W2.heap.size := (Array.getElem?_eq_some_iff.1 hY).1
  have r1' := r1.below hw (Nat.le_refl _)
  have r2' := r2.below hw (Nat.le_refl _)
  have r3' := r3.below hw (Nat.le_refl _)
  have s1' := s1.below hw (Nat.le_refl _)
  have s2' := s2.below hw (Nat.le_refl _)
  have s3' := s3.below hw (Nat.le_refl _)
  have HK := Lib.hid (fun (W : World) (hW : Below W2.heap.size W2 W) => (show (W.cell? ⟨w.heap.size, 0, none⟩ = some (.slice p1 A.vars.length c1) ∧ W.cell? ⟨w.heap.size, 1, none⟩ = some (.slice p2 A.args.length c2) ∧ W.cell? ⟨w.heap.size, 2, none⟩ = some (.slice p3 A.funs.length c3)) ∧ (W.cell? ⟨w.heap.size + 1, 0, none⟩ = some (.slice q1 B.vars.length d1) ∧ W.cell? ⟨w.heap.size + 1, 1, none⟩ = some (.slice q2 B.args.length d2) ∧ W.cell? ⟨w.heap.size + 1, 2, none⟩ = some (.slice q3 B.funs.length d3)) by
    have g1 := (hW.block _ hXl).trans hX
    have g2 := (hW.block _ hYl).trans hY
    exact ⟨⟨cell_of_row _ _ 0 _ _ _ g1, cell_of_row _ _ 1 _ _ _ g1, cell_of_row _ _ 2 _ _ _ g1⟩, cell_of_row _ _ 0 _ _ _ g2, cell_of_row _ _ 1 _ _ _ g2, cell_of_row _ _ 2 _ _ _ g2⟩))
  have HV := Lib.hid (rVarss_any A.vars B.vars _ _ W2 r1' s1' (by have := hf.1; omega))
  have HT := Lib.hid (fun W (hW : Below W2.heap.size W2 W) => rTextss_any A.args B.args _ _ W (r2'.below hW (Nat.le_refl _)) (s2'.below hW (Nat.le_refl _)) hf.2.2)
  have HRA := Lib.hid (fun W (hW : Below W2.heap.size W2 W) => r3'.below hW (Nat.le_refl _))
  have HRB := Lib.hid (fun W (hW : Below W2.heap.size W2 W) => s3'.below hW (Nat.le_refl _))
  have HB := Lib.hid hw
  have hl3 := hf.2.1
  have hmb := s3.few
  unfold maxLen at hmb
  have HEQ := Lib.hid (show (decide (A = B) = true) ↔ (A.vars = B.vars ∧ A.args = B.args ∧ A.funs = B.funs) by
    rw [decide_eq_true_iff]
    obtain ⟨a1, a2, a3⟩ := A
    obtain ⟨b1, b2, b3⟩ := B
    simp)
  obtain ⟨Z, hZ⟩ : ∃ Z, decide (A = B) = Z := ⟨_, rfl⟩
  rw [hZ] at HEQ ⊢
  obtain ⟨av, aa, af⟩ := A
  obtain ⟨bv, ba, bf⟩ := B
  dsimp only at *
  obtain ⟨N1, hN1⟩ : ∃ N, av.length = N := ⟨_, rfl⟩
  obtain ⟨N2, hN2⟩ : ∃ N, aa.length = N := ⟨_, rfl⟩
  obtain ⟨N3, hN3⟩ : ∃ N, af.length = N := ⟨_, rfl⟩
  obtain ⟨M1, hM1⟩ : ∃ N, bv.length = N := ⟨_, rfl⟩
  obtain ⟨M2, hM2⟩ : ∃ N, ba.length = N := ⟨_, rfl⟩
  obtain ⟨M3, hM3⟩ : ∃ N, bf.length = N := ⟨_, rfl⟩
  have HN := Lib.hid (And.intro hN3 hM3)
  obtain ⟨⟨k0, k1, k2⟩, k3, k4, k5⟩ := HK.out W2 (Below.refl _ _)
  obtain ⟨V, hV⟩ : ∃ V, decide (av = bv) = V := ⟨_, rfl⟩
  obtain ⟨T, hT⟩ : ∃ T, decide (aa = ba) = T := ⟨_, rfl⟩
  rw [hV] at HV
  rw [hT] at HT
  have HVT := Lib.hid (And.intro hV hT)
  rw [hN1, hM1] at HV
  rw [hN2, hM2] at HT
  rw [hN3] at HRA hl3
  rw [hM3] at HRB hmb
  rw [hN1, hN2, hN3, hM1, hM2, hM3] at hW2 HK
  rw [hN1, hN2, hN3, hM1, hM2, hM3]
  rw [hN1] at k0
  rw [hN2] at k1
  rw [hN3] at k2
  rw [hM1] at k3
  rw [hM2] at k4
  rw [hM3] at k5
  clear ha hb hf hw hX hY hXl hYl r1 r2 r3 s1 s2 s3 r1' r2' r3' s1' s2' s3' hZ hN1 hN2 hN3 hM1 hM2 hM3 hV hT
  by_cases hne : N3 = M3
  · subst hne
    cases V with
    | false =>
      have HF := Lib.hid (show Z = false by
        cases Z with
        | false => rfl
        | true =>
          have h1 := (HEQ.out.1 rfl).1
          have h2 := HVT.out.1
          rw [decide_eq_true h1] at h2
          cases h2)
      go_enter Try.func21, Try.ntmps21
      go_wp2_with (first
        | (rw [hW2]; clear hW2)
        | (go_at_call 34; (refine HV.out.mono ?_); rintro e w3 ⟨rfl, hb3⟩; have HB3 := Lib.hid (en_trans HB.out hb3); clear hb3))
      go_ret
      rw [HF.out]
      exact ⟨rfl, HB3.out⟩
    | true =>
      cases T with
      | false =>
        have HF := Lib.hid (show Z = false by
          cases Z with
          | false => rfl
          | true =>
            have h1 := (HEQ.out.1 rfl).2.1
            have h2 := HVT.out.2
            rw [decide_eq_true h1] at h2
            cases h2)
        go_enter Try.func21, Try.ntmps21
        go_wp2_with (first
          | (rw [hW2]; clear hW2)
          | (go_at_call 34; (refine HV.out.mono ?_); rintro e w3 ⟨rfl, hb3⟩; obtain ⟨⟨k0, k1, k2⟩, k3, k4, k5⟩ := HK.out w3 hb3; have HT3 := Lib.hid (HT.out w3 hb3); have HB3 := Lib.hid (en_trans HB.out hb3); clear hb3)
          | (go_at_call 35; (refine HT3.out.mono ?_); rintro e w4 ⟨rfl, hb4⟩; have HB4 := Lib.hid (en_trans HB3.out hb4); clear hb4))
        go_ret
        rw [HF.out]
        exact ⟨rfl, HB4.out⟩
      | true =>
        go_enter Try.func21, Try.ntmps21
        go_wp2_with (first
          | (rw [hW2]; clear hW2)
          | (go_at_call 34; (refine HV.out.mono ?_); rintro e w3 ⟨rfl, hb3⟩; obtain ⟨⟨k0, k1, k2⟩, k3, k4, k5⟩ := HK.out w3 hb3; have HT3 := Lib.hid (HT.out w3 hb3); have HW3 := Lib.hid hb3; clear hb3)
          | (go_at_call 35; (refine HT3.out.mono ?_); rintro e w4 ⟨rfl, hb4⟩; have HW4 := Lib.hid (en_trans HW3.out hb4); clear hb4))
        clear k0 k1 k2 k3 k4 k5
        go_loopw [5] (fun v wr => ∃ i : Nat, v = .int .i64 (i : Int) ∧ i ≤ N3 ∧ (∀ k, k < i → af[k]? = bf[k]?) ∧ Below W2.heap.size W2 wr) (fun v _ => N3 - (intOf v).toNat)
        case atStart => exact ⟨0, rfl, by omega, fun k hk => absurd hk (by omega), HW4.out⟩
        case round =>
          obtain ⟨i, rfl, hi, hs, hbw⟩ := hrel
          have HS := Lib.hid hs
          have HW := Lib.hid hbw
          have hi0 : (0 : Int) ≤ (i : Int) := by omega
          have hi9 : (i : Int) ≤ 1000 := by omega
          clear hs hbw
          obtain ⟨⟨k0, k1, k2⟩, k3, k4, k5⟩ := HK.out wr HW.out
          clear k0 k1 k3 k4
          by_cases hlt : i < N3
          · obtain ⟨x, hx⟩ : ∃ x, af[i]? = some x := ⟨_, List.getElem?_eq_getElem (by rw [HN.out.1]; omega)⟩
            obtain ⟨y, hy⟩ : ∃ y, bf[i]? = some y := ⟨_, List.getElem?_eq_getElem (by rw [HN.out.2]; omega)⟩
            obtain ⟨b1, o1, rfl, h1⟩ := (HRA.out wr HW.out).get hx
            obtain ⟨b2, o2, rfl, h2⟩ := (HRB.out wr HW.out).get hy
            have e1 := h1 i x hx 0 _ rfl
            have e2 := h2 i y hy 0 _ rfl
            have e3 := h1 i x hx 1 _ rfl
            have e4 := h2 i y hy 1 _ rfl
            rw [Nat.add_zero] at e1 e2
            obtain ⟨x1, x2⟩ := x
            obtain ⟨y1, y2⟩ := y
            have hI : (i : Int) < (N3 : Int) := by omega
            have HX := Lib.hid (And.intro hx hy)
            have hm := guardF
            clear h1 h2 hx hy
            cases hc : (eqN x1 y1 && (x2 == y2))
            · have HF := Lib.hid (show Z = false by
                cases Z with
                | false => rfl
                | true =>
                  have h1 := (HEQ.out.1 rfl).2.2
                  rw [h1] at HX
                  have h2 := HX.out.1.symm.trans HX.out.2
                  cases h2
                  rw [eqN_self] at hc
                  simp at hc)
              have hz : ∀ W, (binOp .neq 47 (.agg #[.string x1, .int .i64 x2]) (.agg #[.string y1, .int .i64 y2])).run Try.prog W = .ok (.bool true) W := fun W => by rw [neqF, hc]; rfl
              clear hc
              go_wp2_with fail
              go_quiet (fail)
              all_goals
                go_wp2_with fail
                go_ret
                rw [HF.out]
                exact ⟨rfl, en_trans HB.out (below_drewN HW.out _)⟩
            · have HF := Lib.hid hc
              have hz : ∀ W, (binOp .neq 47 (.agg #[.string x1, .int .i64 x2]) (.agg #[.string y1, .int .i64 y2])).run Try.prog W = .ok (.bool false) W := fun W => by rw [neqF, hc]; rfl
              clear hc
              go_wp2_with fail
              go_quiet (fail)
              all_goals
                go_wp2_with fail
                go_roundw
                case rel =>
                  refine ⟨i + 1, by go_num, by omega, fun k hk => ?_, below_drewN HW.out _⟩
                  rcases Nat.lt_or_ge k i with h | h
                  · exact HS.out k h
                  · obtain rfl : k = i := by omega
                    rw [HX.out.1, HX.out.2]
                    have := HF.out
                    rw [Bool.and_eq_true, beq_iff_eq] at this
                    rw [eqN_iff.1 this.1, this.2]
                case measure => simp [intOf]; omega
          · have hI : ¬ ((i : Int) < (N3 : Int)) := by omega
            have HF := Lib.hid (show Z = true by
              refine HEQ.out.2 ⟨of_decide_eq_true HVT.out.1, of_decide_eq_true HVT.out.2, List.ext_getElem? fun k => ?_⟩
              rcases Nat.lt_or_ge k i with h | h
              · exact HS.out k h
              · rw [List.getElem?_eq_none (by rw [HN.out.1]; omega), List.getElem?_eq_none (by rw [HN.out.2]; omega)])
            go_wp2_with fail
            go_ret
            rw [HF.out]
            exact ⟨rfl, en_trans HB.out HW.out⟩
  · have HF := Lib.hid (show Z = false by
      cases Z with
      | false => rfl
      | true => exact absurd (by rw [← HN.out.1, ← HN.out.2, (HEQ.out.1 rfl).2.2]) hne)
    have hd : ((N3 : Int) == (M3 : Int)) = false := by simpa using fun e : (N3 : Int) = (M3 : Int) => hne (by omega)
    go_enter Try.func21, Try.ntmps21
    go_wp2_with (rw [hW2]; clear hW2)
    go_ret
    rw [HF.out]
    exact ⟨rfl, HB.out⟩
end Go.Proofs.Ytbbopbbnhkcfdaa
