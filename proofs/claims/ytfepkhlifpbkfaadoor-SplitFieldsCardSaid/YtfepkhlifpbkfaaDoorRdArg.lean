/-
  Proved: what a row gives of an argument that is a slice of any elements. Conditions: the row's own.
-/
import Derived.Test.YtfepkhlifpbkfaaDoorRdMem
import Derived.SizedLaws
import Derived.Lib.SmallJoins
import Derived.Deep.Slices
import Derived.OpenShut
namespace Go.Proofs.YtfepkhlifpbkfaaDoor
open Go Go.ChangeShapes Go.WideShapes Go.ChangeAt Go.WideMaps Go.WideElems Go.RowKit Go.Deep

section
variable {H : Type} {enc : TypeId × Value → H}
theorem rd_weights {e : TypeId} {d : DataW H} {k : Nat} (hk : k ∈ d.weights Tryd.prog e) : ∀ {l : List (DataW H)}, d ∈ l → k ∈ DataW.weightsAll Tryd.prog e l
  | x :: r, h => by
    rw [DataW.weightsAll, List.mem_append]
    rcases List.mem_cons.1 h with rfl | h
    · exact .inl hk
    · exact .inr (rd_weights hk h)
/-- A row that has been read. Q: what is asked of an element, by the greatest weight. -/
theorem rd_open {α : Type} {sz : Nat} {en : α → List Value} {ts te : TypeId} (hts : Tryd.prog.underlying ts = some (.slice te)) (hc : Tryd.prog.cellsOf te = sz) (E : Enc sz en) (y0 : α) (Q : α → Nat → Prop) {W : World}
    (hr : ∀ (fuel : Nat) (cs : List Value) (x : DataW H × List MemPlace), DataW.trod enc Tryd.prog W 0 (fun _ => true) true fuel te cs = some x → ∃ y : α, cs = en y ∧ ∀ N, (∀ k ∈ x.1.weights Tryd.prog te, k ≤ N) → Q y N)
    {fuel : Nat} {cv : Value} {x : DataW H × List MemPlace} (hf : DataW.trod enc Tryd.prog W 0 (fun _ => true) true fuel ts [cv] = some x) :
    ∃ (p : Option Addr) (c : Nat) (l : List α), cv = .slice p l.length c ∧ Rd sz en W (.slice p l.length c) l ∧ ∀ N, (∀ k ∈ x.1.weights Tryd.prog ts, k ≤ N) → l.length * Tryd.prog.bytesOf te ≤ N ∧ ∀ y ∈ l, Q y N := by
  rcases open_slice hts hf with ⟨hcs, hx0⟩ | ⟨a, len, cap, m, n, D, Pl, hcs, -, hl, hm, hmm, hxx, hx⟩
  · obtain rfl : cv = .slice none 0 0 := by simpa using hcs
    exact ⟨none, 0, [], rfl, Rd.nil _ _ W, fun N _ => ⟨by simp, fun y hy => by cases hy⟩⟩
  · obtain rfl : cv = .slice (some a) len cap := by simpa using hcs
    have hmc : m = cap := by rw [hmm]; rfl
    rw [hc] at hx
    have hV : ∀ i, ∃ y : α, i < cap → W.cells? 0 (a.add (i * sz)) sz = some (en y) ∧ ∀ N, (∀ k ∈ (D i).weights Tryd.prog te, k ≤ N) → Q y N := fun i => by
      by_cases hi : i < cap
      · obtain ⟨cs', h1, h2⟩ := hx i (by omega)
        obtain ⟨y, rfl, hy⟩ := hr _ _ _ h2
        exact ⟨y, fun _ => ⟨h1, hy⟩⟩
      · exact ⟨y0, fun h => absurd h hi⟩
    obtain ⟨Y, hY⟩ := Classical.axiomOfChoice hV
    have hlen : ((List.range len).map Y).length = len := by simp
    refine ⟨some a, cap, (List.range len).map Y, by rw [hlen], ⟨some a, cap, rfl, by rw [hlen]; exact hl, hm, ?_⟩, fun N hN => ?_⟩
    · rcases Nat.eq_zero_or_pos cap with h0 | h0
      · exact .inl h0
      · obtain ⟨b, o, spot⟩ := a
        have hspot : spot = none := by
          obtain ⟨-, -, g5⟩ := World.cells?_some (hY 0 h0).1
          have hp := E.pos
          have hl0 := E.len (Y 0)
          obtain ⟨u, hu⟩ : ∃ u, (en (Y 0))[0]? = some u := ⟨_, List.getElem?_eq_getElem (by omega)⟩
          have g0 := g5 0 hp
          rw [Nat.zero_mul, hu] at g0
          have := World.cell?_spot g0
          simpa [Addr.add] using this
        subst hspot
        refine .inr ⟨b, o, rfl, fun k y hk i u hu => ?_⟩
        obtain ⟨hk1, hk2⟩ := List.getElem?_eq_some_iff.1 hk
        rw [hlen] at hk1
        rw [List.getElem_map, List.getElem_range] at hk2
        obtain ⟨-, -, g5⟩ := World.cells?_some (hY k (by omega)).1
        rw [hk2] at g5
        have hi : i < sz := by have := (List.getElem?_eq_some_iff.1 hu).1; rwa [E.len] at this
        have := g5 i hi
        rw [en_add, en_add, hu] at this
        exact this
    · rw [hlen]
      obtain ⟨hx1, -⟩ : x.1 = _ ∧ x.2 = _ := by rw [hxx]; exact ⟨rfl, rfl⟩
      rw [hx1] at hN
      refine ⟨?_, fun y hy => ?_⟩
      · have := hN _ (by rw [DataW.weights, hts]; exact List.mem_cons_self)
        simp only [List.length_map, List.length_range] at this
        exact Nat.le_trans (Nat.mul_le_mul_right _ (Nat.le_add_right _ _)) this
      · obtain ⟨i, hi, rfl⟩ := List.mem_map.1 hy
        have hi' : i < len := List.mem_range.1 hi
        refine (hY i (by omega)).2 N fun k hk => hN k ?_
        rw [DataW.weights, hts]
        refine List.mem_cons_of_mem _ (List.mem_append_left _ (rd_weights hk (List.mem_map.2 ⟨i, hi, rfl⟩)))
end
end Go.Proofs.YtfepkhlifpbkfaaDoor
