/-
  Proved: the given statement of the law SpanCrash: for any bytes, any two tags, any number and any choices the law answers true and changes nothing. Conditions: none but the row's own.
-/
import Derived.Test.YtjmhonocokjfeaaLawCrash
import Derived.Test.YtjmhonocokjfeaaSpanFrame
import Derived.SizedLaws
namespace Go.Proofs.Ytjmhonocokjfeaa
open Go Go.ChangeShapes Go.WideShapes Go.ChangeAt Go.WideMaps Go.WideElems Go.RowKit DiskMath NetMem
open Go.ChangeMaps (open_string shut_string)

set_option maxRecDepth 100000 in
theorem spanCrash_lifted (os : Os) (started : os.Started) (H : Type) (enc : TypeId × Value → H) :
    ReturnsInHanded {} Try.checked os 4 .any (Rows.spanCrashSpec.pre6 enc Try.prog Try.f4 Rows.spanCrashRow.domain false) (Rows.spanCrashSpec.post enc Try.prog Try.f4 false true false false) := by
  refine returnsInHanded_of_change_sized (C := Try.checked) own started (by kernel_rfl) Try.func4
    (ChangeSpec.witness6 (enc := enc) (C := Try.checked) false ⟨#[], #[.slice none 0 0, .slice none 0 0, .int .u32 0, .int .u32 0, .int .i64 0, .slice none 0 0], []⟩ 8 (by kernel_rfl) (by kernel_rfl) (by kernel_rfl) (by kernel_rfl)) ?_
  intro W base args ds gs before hval0 hW _ _ _
  have hval : ∀ (j : Nat) t v, Try.f4.params[j]? = some t → args[j]? = some v → Value.okWide Try.prog W .any base t v := hval0
  have hW' := hW
  obtain ⟨p, q, hA0, hV, hbe, hfz, hnd⟩ := hW
  have hA : DataW.TrodAll enc Try.prog W 0 (fun _ => true) true Try.f4.params.toList args.toList ds p := hA0
  rw [Try.params4] at hA hval
  obtain ⟨v0, v1, v2, v3, v4, v5, d0, d1, d2, d3, d4, d5, ps6, rfl, rfl, rfl, ⟨_, h0⟩, ⟨_, h1⟩, ⟨_, h2⟩, ⟨_, h3⟩, ⟨_, h4⟩, ⟨_, h5⟩⟩ := trodAll_six hA
  obtain ⟨rfl, rfl⟩ := trodVars_none hV
  have fin : ∀ W' : World, Below W.heap.size W W' → Rows.spanCrashSpec.post enc Try.prog Try.f4 false true false false W #[v0, v1, v2, v3, v4, v5] (.bool true) W' := fun W' hb =>
    law_post laidOut (by decide +kernel) (by kernel_rfl) Try.underlying4 rfl hW' rfl hb
  obtain ⟨a0, n, c, rfl⟩ := okWide_slice Try.underlying25 (hval 0 25 v0 rfl rfl)
  obtain ⟨l, hl0, hrow0⟩ := bytes_arg h0
  subst hl0
  obtain ⟨a1, n', c', rfl⟩ := okWide_slice Try.underlying25 (hval 1 25 v1 rfl rfl)
  obtain ⟨l', hl1, hrow1⟩ := bytes_arg h1
  subst hl1
  obtain ⟨z2, rfl, -, -, wz2⟩ := open_int Try.underlying26 (hval 2 26 v2 rfl rfl) h2
  have hz2 := bounds_u32 wz2
  obtain ⟨S, rfl⟩ : ∃ N : Nat, z2 = (N : Int) := ⟨z2.toNat, by omega⟩
  obtain ⟨z3, rfl, -, -, wz3⟩ := open_int Try.underlying26 (hval 3 26 v3 rfl rfl) h3
  have hz3 := bounds_u32 wz3
  obtain ⟨T, rfl⟩ : ∃ N : Nat, z3 = (N : Int) := ⟨z3.toNat, by omega⟩
  obtain ⟨z, rfl, -, -, -⟩ := open_int Try.underlying3 (hval 4 3 v4 rfl rfl) h4
  obtain ⟨a5, n5, c5, rfl⟩ := okWide_slice Try.underlying27 (hval 5 27 v5 rfl rfl)
  obtain ⟨l5, hl5, hrow5⟩ := choices_arg h5
  subst hl5
  exact (crash_law_walk a0 a1 a5 c c' c5 l l' l5 S T (by omega) (by omega) z W hrow0 hrow1 hrow5.1 hrow5.2).mono fun e W' ⟨he, hb⟩ => ⟨_, he, fin W' hb⟩

/-- THE STATEMENT. -/
theorem spanCrash_said : Rows.SpanCrashSaid :=
  OpenClaim.holds_of_wide 4 Try.f4 rfl rfl rfl rfl rfl rfl rfl ⟨rfl, rfl, rfl, rfl, rfl⟩ rfl rfl rfl rfl rfl (by kernel_rfl) Try.func4 (by kernel_rfl)
    (of_decide_eq_true (by kernel_rfl)) (by unfold Func.isWrapper; first | (rw [if_pos (by decide +kernel)]; kernel_rfl) | (rw [if_neg (by decide +kernel)]; exact ⟨rfl, rfl⟩))
    (fun os started H enc _ => spanCrash_lifted os started H enc)
end Go.Proofs.Ytjmhonocokjfeaa
