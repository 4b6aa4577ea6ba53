/-
  Proved: the given statement of the law EnvPlays: for any Env and any script of acts the law answers true and changes nothing. Conditions: none but the row's own.
-/
import Derived.Test.YtbbopbbnhkcfdaaEnPlaysLaw
import Derived.Test.YtbbopbbnhkcfdaaEnArgs
import Derived.Test.YtbbopbbnhkcfdaaGlyphFrame
import Derived.SizedLaws
namespace Go.Proofs.Ytbbopbbnhkcfdaa
open Go Go.ChangeShapes Go.WideShapes Go.ChangeAt Go.WideMaps Go.WideElems Go.RowKit EnMath
open Go.ChangeMaps (open_string shut_string)

set_option maxRecDepth 100000 in
theorem envPlays_lifted (os : Os) (started : os.Started) (H : Type) (enc : TypeId × Value → H) :
    ReturnsInHanded {} Try.checked os 3 .any (Rows.envPlaysSpec.pre6 enc Try.prog Try.f3 Rows.envPlaysRow.domain false) (Rows.envPlaysSpec.post enc Try.prog Try.f3 false true false false) := by
  refine returnsInHanded_of_change_sized (C := Try.checked) own started (by kernel_rfl) Try.func3
    (ChangeSpec.witness6 (enc := enc) (C := Try.checked) false ⟨#[], #[.agg #[.slice none 0 0, .slice none 0 0, .slice none 0 0], .slice none 0 0], []⟩ 8 (by kernel_rfl) (by kernel_rfl) (by kernel_rfl) (by kernel_rfl)) ?_
  intro W base args ds gs before hval0 hW _ hsz0 _
  have hval : ∀ (j : Nat) t v, Try.f3.params[j]? = some t → args[j]? = some v → Value.okWide Try.prog W .any base t v := hval0
  have hW' := hW
  have hsz : (DataW.weightsEach Try.prog (Try.f3.params.toList ++ Rows.envPlaysSpec.plain.varTypes Try.prog) (ds ++ gs)).all (· ≤ reachBytes) = true := hsz0
  obtain ⟨p, q, hA0, hV, hbe, hfz, hnd⟩ := hW
  have hA : DataW.TrodAll enc Try.prog W 0 (fun _ => true) true Try.f3.params.toList args.toList ds p := hA0
  rw [Try.params3] at hA hval hsz
  obtain ⟨v0, v1, d0, d1, p0, p1, rfl, rfl, rfl, h0, h1⟩ := trodAll_two hA
  obtain ⟨rfl, rfl⟩ := trodVars_none hV
  have fin : ∀ W' : World, Below W.heap.size W W' → Rows.envPlaysSpec.post enc Try.prog Try.f3 false true false false W #[v0, v1] (.bool true) W' := fun W' hb =>
    law_post laidOut (by decide +kernel) (by kernel_rfl) Try.underlying4 rfl hW' rfl hb
  obtain ⟨E, hE, ha⟩ := env_open (hval 0 26 v0 rfl rfl) h0 (fun k hk => by
    have := List.all_eq_true.1 hsz k (DataW.weights_mem_each (j := 0) (t := 26) rfl rfl k hk)
    have hr : reachBytes = 140737488351232 := rfl
    simp only [hr, decide_eq_true_eq] at this
    omega)
  obtain ⟨l, hl⟩ := script_open (hval 1 27 v1 rfl rfl) h1
  exact (plays_law v0 v1 W hE hl ha).mono fun e W' ⟨he, hb⟩ => ⟨_, he, fin W' hb⟩

/-- THE STATEMENT. -/
theorem envPlays_said : Rows.EnvPlaysSaid :=
  OpenClaim.holds_of_wide 3 Try.f3 rfl rfl rfl rfl rfl rfl rfl ⟨rfl, rfl, rfl, rfl, rfl⟩ rfl rfl rfl rfl rfl (by kernel_rfl) Try.func3 (by kernel_rfl)
    (of_decide_eq_true (by kernel_rfl)) (by unfold Func.isWrapper; first | (rw [if_pos (by decide +kernel)]; kernel_rfl) | (rw [if_neg (by decide +kernel)]; exact ⟨rfl, rfl⟩))
    (fun os started H enc _ => envPlays_lifted os started H enc)
end Go.Proofs.Ytbbopbbnhkcfdaa
