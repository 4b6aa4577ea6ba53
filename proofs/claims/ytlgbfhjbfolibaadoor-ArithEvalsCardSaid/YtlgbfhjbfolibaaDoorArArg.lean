/-
  Proved: what a row gives of an argument that is a list of bindings: a row that can be read, its texts within the row's reach. Conditions: the row's own.
-/
import Derived.Test.YtlgbfhjbfolibaaDoorArFrame
import Derived.Test.YtlgbfhjbfolibaaDoorArVars
import Derived.Lib.SmallJoins
namespace Go.Proofs.YtlgbfhjbfolibaaDoor
open Go Go.ChangeShapes Go.WideShapes Go.ChangeAt Go.WideMaps Go.WideElems Go.RowKit Go.Deep ArMath

theorem bind_struct : ∃ f0 f1 : Field, Tryd.prog.underlying 38 = some (.struct #[f0, f1]) ∧ (f0.type = 9 ∧ f0.offset = 0) ∧ (f1.type = 9 ∧ f1.offset = 1) := ⟨_, _, Tryd.underlying38, ⟨rfl, rfl⟩, ⟨rfl, rfl⟩⟩
theorem cBind : Tryd.prog.cellsOf 38 = 2 := by kernel_rfl
theorem ar_add (b o n : Nat) : (⟨b, o, none⟩ : Addr).add n = ⟨b, o + n, none⟩ := by
  unfold Addr.add
  split <;> simp_all
section
variable {H : Type} {enc : TypeId × Value → H}
theorem weights_all_mem {e : TypeId} {d : DataW H} {k : Nat} (hk : k ∈ d.weights Tryd.prog e) : ∀ {l : List (DataW H)}, d ∈ l → k ∈ DataW.weightsAll Tryd.prog e l
  | x :: r, h => by
    rw [DataW.weightsAll, List.mem_append]
    rcases List.mem_cons.1 h with rfl | h
    · exact .inl hk
    · exact .inr (weights_all_mem hk h)
/-- One binding that has been read. -/
theorem bind_read {W : World} {fuel : Nat} {cs : List Value} {x : DataW H × List MemPlace} {N : Nat} (h : DataW.trod enc Tryd.prog W 0 (fun _ => true) true fuel 38 cs = some x) (hN : ∀ k ∈ x.1.weights Tryd.prog 38, k ≤ N) :
    ∃ y : B × B, cs = [.string (tx y.1), .string (tx y.2)] ∧ y.1.length ≤ N ∧ y.2.length ≤ N := by
  obtain ⟨f0, f1, hu, ⟨t0, o0⟩, ⟨t1, o1⟩⟩ := bind_struct
  obtain ⟨y0, y1, n, rfl, hlen, h0, h1⟩ := trod_struct2 hu h
  rw [t0, o0, cStr] at h0
  rw [t1, o1, cStr] at h1
  rw [cBind] at hlen
  match cs, hlen with
  | [c0, c1], _ =>
    simp only [List.drop_zero, List.drop_succ_cons, List.take_succ_cons, List.take_zero] at h0 h1
    obtain ⟨s0, e0, z0, -⟩ := DataW.trod_string Tryd.underlying9 h0
    obtain ⟨s1, e1, z1, -⟩ := DataW.trod_string Tryd.underlying9 h1
    obtain rfl : c0 = .string s0 := by simpa using e0
    obtain rfl : c1 = .string s1 := by simpa using e1
    have hw : ∀ k, k = s0.data.toList.length ∨ k = s1.data.toList.length → k ≤ N := fun k hk => hN k (by
      rw [z0, z1]
      show k ∈ DataW.weights Tryd.prog 38 (.agg [.lit (.string s0.data.toList), .lit (.string s1.data.toList)])
      rw [DataW.weights, hu]
      show k ∈ DataW.weightsEach Tryd.prog [f0.type, f1.type] [.lit (.string s0.data.toList), .lit (.string s1.data.toList)]
      rw [DataW.weightsEach, DataW.weightsEach, DataW.weightsEach, DataW.weights, DataW.weights]
      · simp
        exact hk
      all_goals simp)
    exact ⟨(s0.data.toList, s1.data.toList), by rw [tx_of, tx_of], hw _ (.inl rfl), hw _ (.inr rfl)⟩
theorem binds_arg {W : World} {a0 : Option Addr} {n0 c0 : Nat} {d : DataW H} {ps : List MemPlace} (h : DataW.Trod enc Tryd.prog W 0 (fun _ => true) true 22 (.slice a0 n0 c0) d ps) (hN : ∀ k ∈ d.weights Tryd.prog 22, k ≤ 140737488355328) :
    n0 ≤ 20 → ∃ vs, VarsAt W (.slice a0 n0 c0) vs := by
  obtain ⟨fuel, hf⟩ := h
  rcases open_slice Tryd.underlying22 hf with ⟨hcs, -⟩ | ⟨a, len, cap, m, n, D, Pl, hcs, -, hl, hm, hmm, hxx, hx⟩
  · obtain ⟨rfl, rfl, rfl⟩ : a0 = none ∧ n0 = 0 ∧ c0 = 0 := by simpa [Value.cells] using hcs
    exact fun _ => ⟨[], none, 0, rfl, by simp, fun j x hx => by simp at hx⟩
  · obtain ⟨rfl, rfl, rfl⟩ : a0 = some a ∧ n0 = len ∧ c0 = cap := by simpa [Value.cells] using hcs
    refine fun h20 => ?_
    obtain ⟨rfl, -⟩ : d = _ ∧ _ := by simpa using hxx
    have hmc : m = c0 := by rw [hmm]; rfl
    have hV : ∀ i, ∃ y : B × B, i < n0 → W.cells? 0 (a.add (i * 2)) 2 = some [.string (tx y.1), .string (tx y.2)] ∧ y.1.length ≤ 140737488355328 ∧ y.2.length ≤ 140737488355328 := fun i => by
      by_cases hi : i < n0
      · obtain ⟨cs', h1, h2⟩ := hx i (by omega)
        rw [cBind] at h1
        obtain ⟨y, rfl, hy⟩ := bind_read h2 (N := 140737488355328) (fun k hk => hN k (by
          rw [DataW.weights, Tryd.underlying22]
          exact List.mem_cons_of_mem _ (List.mem_append_left _ (weights_all_mem hk (List.mem_map.2 ⟨i, by simpa using hi, rfl⟩)))))
        exact ⟨y, fun _ => ⟨h1, hy⟩⟩
      · exact ⟨([], []), fun h => absurd h hi⟩
    obtain ⟨Y, hY⟩ := Classical.axiomOfChoice hV
    refine ⟨(List.range n0).map Y, some a, c0, by simp, by simpa using h20, fun j x hx => ?_⟩
    obtain ⟨hj, hxj⟩ := List.getElem?_eq_some_iff.1 hx
    have hj' : j < n0 := by simpa using hj
    rw [List.getElem_map, List.getElem_range] at hxj
    obtain ⟨h1, h2, h3⟩ := hY j hj'
    rw [hxj] at h1 h2 h3
    obtain ⟨-, -, h5⟩ := World.cells?_some h1
    have k0 := h5 0 (by decide)
    have k1 := h5 1 (by decide)
    simp only [List.getElem?_cons_zero, List.getElem?_cons_succ] at k0 k1
    obtain ⟨b, o, spot⟩ := a
    have hspot : spot = none := by
      obtain ⟨g1, -, -⟩ := hY 0 (by omega)
      obtain ⟨-, -, g5⟩ := World.cells?_some g1
      have g0 := g5 0 (by decide)
      rw [Nat.zero_mul] at g0
      have := World.cell?_spot g0
      simpa [Addr.add] using this
    subst hspot
    rw [ar_add, ar_add] at k0 k1
    exact ⟨h2, h3, b, o, rfl, by simpa using k0, by simpa [Nat.add_assoc] using k1⟩
end
end Go.Proofs.YtlgbfhjbfolibaaDoor
