/-
  Proved: the contract of a row's lit where it puts a Lit behind. Conditions: the row lies in memory, and it is short.
-/
import Derived.Test.YtpifbpfmjmcchaaDoorLexLit
namespace Go.Proofs.YtpifbpfmjmcchaaDoor
open Go Go.RowKit GlyphMath LexMath

set_option maxHeartbeats 600000 in
set_option maxRecDepth 100000 in
theorem lit_first {w : World} {B W : Nat} (h : RowAt w B W []) (t : List UInt8) (q : Bool) (hBw : B ≤ w.heap.size) :
    Calls Tryd.prog 59 #[.pointer (some ⟨W, 0, none⟩), txt t, .bool q] w fun e w' => e = .returned (.tuple #[]) ∧ RowAt w' B W [⟨1, t, [], [], q⟩] ∧ Kept (fun k => B ≤ k) w w' := by
  obtain ⟨v, vs, F, h⟩ := h
  obtain ⟨a, c, rfl⟩ := h.shape
  have c0 := h.cell0
  have f0 := h.frozen0
  obtain ⟨i0, hi0, hz0, hz1, hz2⟩ := info_parts infoPart
  have HI := Lib.hid (And.intro hi0 (And.intro hz0 (And.intro hz1 hz2)))
  have HO := Lib.hid h.own
  simp only [List.length_nil] at c0
  have HC := Lib.hid (show 0 + 1 ≤ maxLen ∧ (0 + 1) * 72 ≤ 140737488355328 ∧ B ≤ w.heap.size from ⟨by decide, by decide, hBw⟩)
  have cA : ∀ o1, (w.alloc o1).cell? ⟨W, 0, none⟩ = some (.slice a 0 c) := fun o1 => (World.cell?_alloc_lt _ _ _ h.lt).trans c0
  obtain ⟨b, hb⟩ : ∃ b : ByteArray, b = ⟨t.toArray⟩ := ⟨_, rfl⟩
  rw [show txt t = .string b by rw [hb]; rfl]
  have HH := Lib.hid h
  have HTB := Lib.hid hb
  clear h hi0 hz0 hz1 hz2 hBw hb
  go_enter Tryd.func59, Tryd.ntmps59
  go_wp2_with fail
  go_region_law (refine step_append_lies _ (by rfl) (.tmp 55) (.tmp 60) 23 (by rfl) B 25 i0 (.agg zeroPart) 5 72 Tryd.underlying23 HI.out.1 HI.out.2.1 HI.out.2.2.1 HI.out.2.2.2 (by rfl) (by decide) _ _ _ (by rfl) ((HO.out.alloc _)) ⟨w.heap.size, 0, none⟩ 1 1 zeroPart.toList (by rfl) (by rfl) (new_block w _ _) (by decide) (by decide) HC.out.1 HC.out.2.1 (by have := HC.out.2.2; simp; omega) (w.heap.size + 1) (by simp) ?_; intro g cap w1 hown hgrow hat hlt; have HG := Lib.hid (show Grown w w1 B W _ vs [] g cap from ⟨hown, hgrow, hat, hlt⟩); obtain ⟨x0, x1, x2, x3, x4⟩ := HG.out.facts HH.out; have d0 := x3 0 (by decide); have d1 := x3 1 (by decide); have d2 := x3 2 (by decide); have d3 := x3 3 (by decide); have d4 := x3 4 (by decide); have e0 := x4 0; have e1 := x4 (0 + 1); have e2 := x4 (0 + 2); have e3 := x4 (0 + 3); have e4 := x4 (0 + 4); simp [zeroPart] at d0 d1 d2 d3 d4 e0 e1 e2 e3 e4;  clear hown hgrow hat hlt x3 x4)
  all_goals
    go_wp2_with fail
    go_end0
    have hb := HTB.out
    subst hb
    refine ⟨rfl, ?_⟩
    first
      | (with_reducible refine Grown.putA (ps := []) HH.out HG.out ⟨1, t, [], [], q⟩ (.slice none 0 0) ⟨_, WordV.nil _ (fun _ => False), fun _ h => h.elim⟩ ?_ ?_ ?_ ?_ ?_ ?_ ?_ ?_) <;> rfl
      | (with_reducible refine Grown.putB (ps := []) HH.out HG.out ⟨1, t, [], [], q⟩ (.slice none 0 0) ⟨_, WordV.nil _ (fun _ => False), fun _ h => h.elim⟩ ?_ ?_ ?_ ?_ ?_ ?_ ?_ ?_) <;> rfl
end Go.Proofs.YtpifbpfmjmcchaaDoor
