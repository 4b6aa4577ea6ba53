/-
  Proved: what '!=' answers of two entries of api.Binding. Conditions: none.
-/
import Derived.Test.YtbbopbbnhkcfdaaEnMem
import Derived.Laws.StructEq
namespace Go.Proofs.Ytbbopbbnhkcfdaa
open Go Go.RowKit EnMath

theorem fieldsV : ∃ f0 f1 : Field, (Try.prog.fieldsOf 44).toList = [f0, f1] ∧ (f0.name ≠ "_" ∧ f0.type = 9 ∧ f0.offset = 0) ∧ (f1.name ≠ "_" ∧ f1.type = 9 ∧ f1.offset = 1) := by
  unfold Program.fieldsOf
  rw [Try.underlying44]
  exact ⟨_, _, rfl, ⟨by decide, rfl, rfl⟩, ⟨by decide, rfl, rfl⟩⟩
theorem guardV : Try.prog.eqGuardType Try.prog.depth 44 = false := by kernel_rfl
theorem neqV (x1 y1 : ByteArray) (x2 y2 : ByteArray) (w : World) : (binOp .neq 44 (.agg #[.string x1, .string x2]) (.agg #[.string y1, .string y2])).run Try.prog w = .ok (.bool (!(eqN x1 y1 && eqN x2 y2))) w := by
  rw [run_neq_struct, run_equalIn_agg w 9999 44 _ _ (by simp only [Program.fieldsOf, Try.underlying44]) (by kernel_rfl)]
  obtain ⟨f0, f1, hf, ⟨n0, t0, o0⟩, ⟨n1, t1, o1⟩⟩ := fieldsV
  rw [hf]
  unfold eqN
  cases h1 : (x1.toList == y1.toList) <;> cases h2 : (x2.toList == y2.toList) <;> simp [Op.eqFields, h1, h2, go_sem, Try.underlying9, Try.underlying9, n0, t0, o0, n1, t1, o1]
end Go.Proofs.Ytbbopbbnhkcfdaa
