/-
  Proved: the contract of a row's lit where it puts a Lit behind. Conditions: the row lies in memory, and it is short.
-/
import Derived.Test.YtpifbpfmjmcchaaDoorLexLit
namespace Go.Proofs.YtpifbpfmjmcchaaDoor
open Go Go.RowKit GlyphMath LexMath

set_option maxHeartbeats 600000 in
set_option maxRecDepth 100000 in
theorem lit_more {w : World} {B W : Nat} {ps : List Pt} {p : Pt} (h : RowAt w B W (ps ++ [p])) (t : List UInt8) (q : Bool) (hno : ¬ (p.kind = 1 ∧ p.q = q)) (hn : ps.length ≤ 10000) (hBw : B ≤ w.heap.size) :
    Calls Tryd.prog 59 #[.pointer (some ⟨W, 0, none⟩), txt t, .bool q] w fun e w' => e = .returned (.tuple #[]) ∧ RowAt w' B W (ps ++ [p] ++ [⟨1, t, [], [], q⟩]) ∧ Kept (fun k => B ≤ k) w w' := by
  obtain ⟨pk, T, O, D, pq⟩ := p
  simp only at hno
  obtain ⟨v, vs, F, h⟩ := h
  obtain ⟨A, cp, vs0, u, rfl, rfl, hl, hB, hA, hAW, hc, hf⟩ := h.form
  have c0 := h.cell0
  have f0 := h.frozen0
  have k0 := hc 0 (by omega)
  have k4 := hc 4 (by omega)
  simp only [pcells, List.getElem?_cons_zero, List.getElem?_cons_succ, Nat.add_zero] at k0 k4
  obtain ⟨i0, hi0, hz0, hz1, hz2⟩ := info_parts infoPart
  have HI := Lib.hid (And.intro hi0 (And.intro hz0 (And.intro hz1 hz2)))
  have ho := h.own
  have hln : (ps ++ [(⟨pk, T, O, D, pq⟩ : Pt)]).length = ps.length + 1 := by simp
  rw [hln] at ho
  obtain ⟨n, hn'⟩ : ∃ n, ps.length = n := ⟨_, rfl⟩
  rw [hn'] at c0 k0 k4 ho hln
  have HO := Lib.hid ho
  have HN := Lib.hid hn'
  have HLN := Lib.hid hln
  have HC := Lib.hid (show n + 1 + 1 ≤ maxLen ∧ (n + 1 + 1) * 72 ≤ 140737488355328 ∧ B ≤ w.heap.size from ⟨by unfold maxLen; omega, by omega, hBw⟩)
  have cA : ∀ o1, (w.alloc o1).cell? ⟨W, 0, none⟩ = some (.slice (some ⟨A, 0, none⟩) (n + 1) cp) := fun o1 => (World.cell?_alloc_lt _ _ _ h.lt).trans c0
  obtain ⟨b, hb⟩ : ∃ b : ByteArray, b = ⟨t.toArray⟩ := ⟨_, rfl⟩
  rw [show txt t = .string b by rw [hb]; rfl]
  have HH := Lib.hid (show RowO w B W (.slice (some ⟨A, 0, none⟩) (n + 1) cp) (vs0 ++ [u]) F (ps ++ [⟨pk, T, O, D, pq⟩]) by rw [← hn']; exact h)
  have HTB := Lib.hid hb
  have hn1 : (n : Int) ≤ 10000 := by omega
  have hn0 : (0 : Int) ≤ n := by omega
  have hn2 : (0 : Int) ≤ (n : Int) + 1 := by omega
  have hn3 : (n : Int) < (n : Int) + 1 := by omega
  clear h hi0 hz0 hz1 hz2 hBw hb hc hf hl hB hA hn hn' ho hln
  by_cases hk : pk = 1
  · have hq : ¬ pq = q := fun e => hno ⟨hk, e⟩
    have hqq : (pq == q) = false := by simpa using hq
    subst hk
    clear hno hq
    go_enter Tryd.func59, Tryd.ntmps59
    go_wp2_with fail
    go_region_law (refine step_append_lies _ (by rfl) (.tmp 55) (.tmp 60) 23 (by rfl) B 25 i0 (.agg zeroPart) 5 72 Tryd.underlying23 HI.out.1 HI.out.2.1 HI.out.2.2.1 HI.out.2.2.2 (by rfl) (by decide) _ _ _ (by rfl) ((HO.out.alloc _)) ⟨w.heap.size, 0, none⟩ 1 1 zeroPart.toList (by rfl) (by rfl) (new_block w _ _) (by decide) (by decide) HC.out.1 HC.out.2.1 (by have := HC.out.2.2; simp; omega) (w.heap.size + 1) (by simp) ?_; intro g cap w1 hown hgrow hat hlt; have HG := Lib.hid (show Grown w w1 B W _ (vs0 ++ [u]) (ps ++ [⟨1, T, O, D, pq⟩]) g cap from ⟨by rw [HLN.out]; exact hown, hgrow, hat, hlt⟩); obtain ⟨x0, x1, x2, x3, x4⟩ := HG.out.facts HH.out; have d0 := x3 0 (by decide); have d1 := x3 1 (by decide); have d2 := x3 2 (by decide); have d3 := x3 3 (by decide); have d4 := x3 4 (by decide); have e0 := x4 ((n + 1) * 5); have e1 := x4 (((n + 1) * 5) + 1); have e2 := x4 (((n + 1) * 5) + 2); have e3 := x4 (((n + 1) * 5) + 3); have e4 := x4 (((n + 1) * 5) + 4); rw [HLN.out] at d0 d1 d2 d3 d4; simp [zeroPart] at d0 d1 d2 d3 d4; clear hown hgrow hat hlt x3 x4)
    all_goals
      go_wp2_with fail
      go_end0
      have hb := HTB.out
      subst hb
      refine ⟨rfl, ?_⟩
      first
        | (with_reducible refine Grown.putA (ps := ps ++ [⟨1, T, O, D, pq⟩]) HH.out HG.out ⟨1, t, [], [], q⟩ (.slice none 0 0) ⟨_, WordV.nil _ (fun _ => False), fun _ h => h.elim⟩ ?_ ?_ ?_ ?_ ?_ ?_ ?_ ?_) <;> first | rfl | (rw [HLN.out])
        | (with_reducible refine Grown.putB (ps := ps ++ [⟨1, T, O, D, pq⟩]) HH.out HG.out ⟨1, t, [], [], q⟩ (.slice none 0 0) ⟨_, WordV.nil _ (fun _ => False), fun _ h => h.elim⟩ ?_ ?_ ?_ ?_ ?_ ?_ ?_ ?_) <;> first | rfl | (rw [HLN.out])
  · have hkk : (pk == 1) = false := by simpa using hk
    clear hno hk
    go_enter Tryd.func59, Tryd.ntmps59
    go_wp2_with fail
    go_region_law (refine step_append_lies _ (by rfl) (.tmp 55) (.tmp 60) 23 (by rfl) B 25 i0 (.agg zeroPart) 5 72 Tryd.underlying23 HI.out.1 HI.out.2.1 HI.out.2.2.1 HI.out.2.2.2 (by rfl) (by decide) _ _ _ (by rfl) ((HO.out.alloc _)) ⟨w.heap.size, 0, none⟩ 1 1 zeroPart.toList (by rfl) (by rfl) (new_block w _ _) (by decide) (by decide) HC.out.1 HC.out.2.1 (by have := HC.out.2.2; simp; omega) (w.heap.size + 1) (by simp) ?_; intro g cap w1 hown hgrow hat hlt; have HG := Lib.hid (show Grown w w1 B W _ (vs0 ++ [u]) (ps ++ [⟨pk, T, O, D, pq⟩]) g cap from ⟨by rw [HLN.out]; exact hown, hgrow, hat, hlt⟩); obtain ⟨x0, x1, x2, x3, x4⟩ := HG.out.facts HH.out; have d0 := x3 0 (by decide); have d1 := x3 1 (by decide); have d2 := x3 2 (by decide); have d3 := x3 3 (by decide); have d4 := x3 4 (by decide); have e0 := x4 ((n + 1) * 5); have e1 := x4 (((n + 1) * 5) + 1); have e2 := x4 (((n + 1) * 5) + 2); have e3 := x4 (((n + 1) * 5) + 3); have e4 := x4 (((n + 1) * 5) + 4); rw [HLN.out] at d0 d1 d2 d3 d4; simp [zeroPart] at d0 d1 d2 d3 d4; clear hown hgrow hat hlt x3 x4)
    all_goals
      go_wp2_with fail
      go_end0
      have hb := HTB.out
      subst hb
      refine ⟨rfl, ?_⟩
      first
        | (with_reducible refine Grown.putA (ps := ps ++ [⟨pk, T, O, D, pq⟩]) HH.out HG.out ⟨1, t, [], [], q⟩ (.slice none 0 0) ⟨_, WordV.nil _ (fun _ => False), fun _ h => h.elim⟩ ?_ ?_ ?_ ?_ ?_ ?_ ?_ ?_) <;> first | rfl | (rw [HLN.out])
        | (with_reducible refine Grown.putB (ps := ps ++ [⟨pk, T, O, D, pq⟩]) HH.out HG.out ⟨1, t, [], [], q⟩ (.slice none 0 0) ⟨_, WordV.nil _ (fun _ => False), fun _ h => h.elim⟩ ?_ ?_ ?_ ?_ ?_ ?_ ?_ ?_) <;> first | rfl | (rw [HLN.out])
end Go.Proofs.YtpifbpfmjmcchaaDoor
