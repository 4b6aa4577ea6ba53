/-
  Proved: the statements' own known reckoning. Conditions: the library's two sentinel errors read as laid.
-/
import Derived.Test.YtlgbfhjbfolibaaDoorArEval
namespace Go.Proofs.YtlgbfhjbfolibaaDoor
open Go Go.Shelf Go.RowKit ArMath

theorem known_mod : evalM [([120], [53])] [49, 32, 43, 32, 50, 32, 42, 32, 120] = (11, 0) := by decide +kernel
theorem known_num : numM [45, 49, 50] = (-12, true) := by decide +kernel
theorem vars_one (w : World) (a b : B) (ha : a.length ≤ 140737488355328) (hb : b.length ≤ 140737488355328) (t : TypeId) : VarsAt (w.alloc (.cells #[.string (tx a), .string (tx b)] t)) (.slice (some ⟨w.heap.size, 0, none⟩) 1 1) [(a, b)] := by
  refine ⟨_, _, rfl, by simp, fun j x hx => ?_⟩
  match j, hx with
  | 0, hx =>
    cases hx
    have h := heap_alloc_new w (.cells #[.string (tx a), .string (tx b)] t)
    exact ⟨ha, hb, _, _, rfl, cell_of_row _ _ _ _ _ _ h, cell_of_row _ _ _ _ _ _ h⟩
  | j + 1, hx => simp at hx
set_option maxRecDepth 8000 in
theorem known_any (w : World) (hg : GlobA w) (h7 : 7 ≤ w.heap.size) : Calls Tryd.prog 10 #[] w fun e w' => e = .returned (.bool true) ∧ Below w.heap.size w w' := by
  have hbW : Below w.heap.size w (w.alloc (.cells #[.string ⟨#[120]⟩, .string ⟨#[53]⟩] 38)) := (Below.refl _ w).alloc (Nat.le_refl _) _
  have HE := Lib.hid (eval_any [49, 32, 43, 32, 50, 32, 42, 32, 120] (by decide) [([120], [53])] _ _ (vars_one w [120] [53] (by decide) (by decide) 38) (hg.below hbW) (by simp; omega))
  rw [known_mod] at HE
  have HN := Lib.hid (fun W hW => num_any [45, 49, 50] (by decide) W hW)
  rw [known_num] at HN
  have HB := Lib.hid hbW
  have HG := Lib.hid hg
  clear hbW hg
  go_enter Tryd.func10, Tryd.ntmps10
  go_wp2_with (first
    | (go_at_call 8; refine HE.out.mono ?_; rintro e w1 ⟨rfl, hb1⟩; have HB1 := Lib.hid (HB.out.trans (hb1.mono HB.out.size)); clear hb1)
    | (go_at_call 11; refine (HN.out _ (HG.out.below HB1.out)).mono ?_; rintro e w2 ⟨rfl, hb2⟩; have HB2 := Lib.hid (HB1.out.trans (hb2.mono HB1.out.size)); clear hb2))
  go_ret
  exact ⟨rfl, HB2.out⟩
end Go.Proofs.YtlgbfhjbfolibaaDoor
