/-
  Proved: what '!=' answers of two entries of api.Fun. Conditions: none.
-/
import Derived.Test.YtbbopbbnhkcfdaaEnMem
import Derived.Laws.StructEq
namespace Go.Proofs.Ytbbopbbnhkcfdaa
open Go Go.RowKit EnMath

theorem fieldsF : ∃ f0 f1 : Field, (Try.prog.fieldsOf 47).toList = [f0, f1] ∧ (f0.name ≠ "_" ∧ f0.type = 9 ∧ f0.offset = 0) ∧ (f1.name ≠ "_" ∧ f1.type = 3 ∧ f1.offset = 1) := by
  unfold Program.fieldsOf
  rw [Try.underlying47]
  exact ⟨_, _, rfl, ⟨by decide, rfl, rfl⟩, ⟨by decide, rfl, rfl⟩⟩
theorem guardF : Try.prog.eqGuardType Try.prog.depth 47 = false := by kernel_rfl
theorem neqF (x1 y1 : ByteArray) (x2 y2 : Int) (w : World) : (binOp .neq 47 (.agg #[.string x1, .int .i64 x2]) (.agg #[.string y1, .int .i64 y2])).run Try.prog w = .ok (.bool (!(eqN x1 y1 && (x2 == y2)))) w := by
  rw [run_neq_struct, run_equalIn_agg w 9999 47 _ _ (by simp only [Program.fieldsOf, Try.underlying47]) (by kernel_rfl)]
  obtain ⟨f0, f1, hf, ⟨n0, t0, o0⟩, ⟨n1, t1, o1⟩⟩ := fieldsF
  rw [hf]
  unfold eqN
  cases h1 : (x1.toList == y1.toList) <;> cases h2 : (x2 == y2) <;> simp [Op.eqFields, h1, h2, go_sem, Try.underlying9, Try.underlying3, n0, t0, o0, n1, t1, o1]
end Go.Proofs.Ytbbopbbnhkcfdaa
