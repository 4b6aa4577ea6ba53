/-
  Proved: what a row gives of an argument that is a row of runs. Conditions: the row's own.
-/
import Derived.Test.YtfepkhlifpbkfaaDoorRdArg
import Derived.Test.YtfepkhlifpbkfaaDoorSpMem
namespace Go.Proofs.YtfepkhlifpbkfaaDoor
open Go Go.ChangeShapes Go.WideShapes Go.ChangeAt Go.WideMaps Go.WideElems Go.RowKit Go.Deep SpMath

theorem cRun : Tryd.prog.cellsOf 24 = 4 := by kernel_rfl
theorem cStr : Tryd.prog.cellsOf 9 = 1 := by kernel_rfl
theorem cBool : Tryd.prog.cellsOf 4 = 1 := by kernel_rfl
theorem run_struct : ∃ f0 f1 f2 f3 : Field, Tryd.prog.underlying 24 = some (.struct #[f0, f1, f2, f3]) ∧ (f0.type = 9 ∧ f0.offset = 0) ∧ (f1.type = 4 ∧ f1.offset = 1) ∧ (f2.type = 4 ∧ f2.offset = 2) ∧ (f3.type = 4 ∧ f3.offset = 3) := ⟨_, _, _, _, Tryd.underlying24, ⟨rfl, rfl⟩, ⟨rfl, rfl⟩, ⟨rfl, rfl⟩, ⟨rfl, rfl⟩⟩
section
variable {H : Type} {enc : TypeId × Value → H}
theorem run_cells {W : World} {fuel : Nat} {cs : List Value} {x : DataW H × List MemPlace} (h : DataW.trod enc Tryd.prog W 0 (fun _ => true) true fuel 24 cs = some x) : ∃ y : Rn, cs = rnC y ∧ ∀ N, (∀ k ∈ x.1.weights Tryd.prog 24, k ≤ N) → y.text.size ≤ N := by
  obtain ⟨f0, f1, f2, f3, hu, ⟨t0, o0⟩, ⟨t1, o1⟩, ⟨t2, o2⟩, ⟨t3, o3⟩⟩ := run_struct
  obtain ⟨y0, y1, y2, y3, n, hx, hl, h0, h1, h2, h3⟩ := Joins.trod_struct4 hu h
  rw [cRun] at hl
  rw [t0, o0, cStr] at h0
  rw [t1, o1, cBool] at h1
  rw [t2, o2, cBool] at h2
  rw [t3, o3, cBool] at h3
  match cs, hl with
  | [c0, c1, c2, c3], _ =>
    simp only [List.drop_zero, List.drop_succ_cons, List.take_succ_cons, List.take_zero] at h0 h1 h2 h3
    obtain ⟨s0, e0, g0, -⟩ := DataW.trod_string Tryd.underlying9 h0
    obtain ⟨z1, e1, -⟩ := DataW.trod_bool Tryd.underlying4 h1
    obtain ⟨z2, e2, -⟩ := DataW.trod_bool Tryd.underlying4 h2
    obtain ⟨z3, e3, -⟩ := DataW.trod_bool Tryd.underlying4 h3
    obtain rfl : c0 = .string s0 := by simpa using e0
    obtain rfl : c1 = .bool z1 := by simpa using e1
    obtain rfl : c2 = .bool z2 := by simpa using e2
    obtain rfl : c3 = .bool z3 := by simpa using e3
    refine ⟨⟨s0, z1, z2, z3⟩, rfl, fun N hN => ?_⟩
    have hm : s0.data.toList.length ∈ x.1.weights Tryd.prog 24 := by
      rw [hx]
      show _ ∈ (DataW.agg _).weights _ _
      rw [DataW.weights, hu]
      show _ ∈ DataW.weightsEach Tryd.prog [f0.type, f1.type, f2.type, f3.type] [y0.1, y1.1, y2.1, y3.1]
      rw [DataW.weightsEach, g0]
      exact List.mem_append_left _ (by simp [DataW.weights])
    have := hN _ hm
    rwa [← Lib.size_eq] at this
/-- An argument that is a row of runs. -/
theorem runs_open {W : World} {base : Nat} {v : Value} {d : DataW H} {ps : List MemPlace} (hv : Value.okWide Tryd.prog W .any base 22 v) (h : DataW.Trod enc Tryd.prog W 0 (fun _ => true) true 22 v d ps) (hN : ∀ k ∈ d.weights Tryd.prog 22, k ≤ 140737488355328) :
    ∃ l : List Rn, Rd 4 rnC W v l ∧ ∀ x ∈ l, x.text.size ≤ 140737488355328 := by
  obtain ⟨a, n, c, rfl⟩ := okWide_slice Tryd.underlying22 hv
  obtain ⟨fuel, hf⟩ := h
  obtain ⟨p, m, l, e, r, hb⟩ := rd_open Tryd.underlying22 cRun rnE ⟨⟨#[]⟩, false, false, false⟩ (fun y N => y.text.size ≤ N) (fun _ _ _ h => run_cells h) hf
  exact ⟨l, by rw [e]; exact r, (hb _ hN).2⟩
theorem str_cells {W : World} {fuel : Nat} {cs : List Value} {x : DataW H × List MemPlace} (h : DataW.trod enc Tryd.prog W 0 (fun _ => true) true fuel 9 cs = some x) : ∃ y : ByteArray, cs = sC y ∧ ∀ N, (∀ k ∈ x.1.weights Tryd.prog 9, k ≤ N) → y.size ≤ N := by
  obtain ⟨s0, e0, g0, -⟩ := DataW.trod_string Tryd.underlying9 h
  refine ⟨s0, e0, fun N hN => ?_⟩
  have := hN s0.data.toList.length (by rw [g0]; simp [DataW.weights])
  rwa [← Lib.size_eq] at this
/-- An argument that is a row of texts. -/
theorem strs_open {W : World} {base : Nat} {v : Value} {d : DataW H} {ps : List MemPlace} (hv : Value.okWide Tryd.prog W .any base 37 v) (h : DataW.Trod enc Tryd.prog W 0 (fun _ => true) true 37 v d ps) : ∃ l : List ByteArray, Rd 1 sC W v l := by
  obtain ⟨a, n, c, rfl⟩ := okWide_slice Tryd.underlying37 hv
  obtain ⟨fuel, hf⟩ := h
  obtain ⟨p, m, l, e, r, -⟩ := rd_open Tryd.underlying37 cStr sE ⟨#[]⟩ (fun y N => y.size ≤ N) (fun _ _ _ h => str_cells h) hf
  exact ⟨l, by rw [e]; exact r⟩
end
end Go.Proofs.YtfepkhlifpbkfaaDoor
