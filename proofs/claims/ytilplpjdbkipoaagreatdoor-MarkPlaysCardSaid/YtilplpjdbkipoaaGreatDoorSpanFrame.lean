/-
  Proved: what the rows of chapter 4's laws give of an argument that is a list of choices, or a list of rows of bytes. Conditions: as the rows say.
-/
import Derived.Test.YtilplpjdbkipoaaGreatDoorDiskFrame
import Derived.Test.YtilplpjdbkipoaaGreatDoorDiskCalls
import Derived.Test.YtilplpjdbkipoaaGreatDoorSumB
import Derived.Deep.Slices
import Derived.Deep.Fields
namespace Go.Proofs.YtilplpjdbkipoaaGreatDoor
open Go Go.ChangeShapes Go.WideShapes Go.ChangeAt Go.WideMaps Go.WideElems Go.RowKit Go.Deep NetMem

theorem cChoice : Tryz.prog.cellsOf 59 = 1 := by kernel_rfl
theorem cInt : Tryz.prog.cellsOf 3 = 1 := by kernel_rfl
theorem choice_struct : ∃ f : Field, Tryz.prog.underlying 59 = some (.struct #[f]) ∧ f.type = 3 ∧ f.offset = 0 := ⟨_, Tryz.underlying59, rfl, rfl⟩

section
variable {H : Type} {enc : TypeId × Value → H} {P : Program} {w : World} {base : Nat} {spare : Nat → Bool} {held : Bool}
/-- Six arguments that have been read. -/
theorem trodAll_six {t0 t1 t2 t3 t4 t5 : TypeId} {args : Array Value} {ds : List (DataW H)} {ps : List MemPlace} (h : DataW.TrodAll enc P w base spare held [t0, t1, t2, t3, t4, t5] args.toList ds ps) :
    ∃ v0 v1 v2 v3 v4 v5 d0 d1 d2 d3 d4 d5 ps', args = #[v0, v1, v2, v3, v4, v5] ∧ ds = [d0, d1, d2, d3, d4, d5] ∧ ps = ps' ∧ (∃ p, DataW.Trod enc P w base spare held t0 v0 d0 p) ∧ (∃ p, DataW.Trod enc P w base spare held t1 v1 d1 p) ∧ (∃ p, DataW.Trod enc P w base spare held t2 v2 d2 p) ∧
      (∃ p, DataW.Trod enc P w base spare held t3 v3 d3 p) ∧ (∃ p, DataW.Trod enc P w base spare held t4 v4 d4 p) ∧ ∃ p, DataW.Trod enc P w base spare held t5 v5 d5 p := by
  obtain ⟨v0, _, d0, _, p0, _, hargs, rfl, rfl, h0, r0⟩ := trodAll_cons h
  obtain ⟨v1, _, d1, _, p1, _, rfl, rfl, rfl, h1, r1⟩ := trodAll_cons r0
  obtain ⟨v2, _, d2, _, p2, _, rfl, rfl, rfl, h2, r2⟩ := trodAll_cons r1
  obtain ⟨v3, _, d3, _, p3, _, rfl, rfl, rfl, h3, r3⟩ := trodAll_cons r2
  obtain ⟨v4, _, d4, _, p4, _, rfl, rfl, rfl, h4, r4⟩ := trodAll_cons r3
  obtain ⟨v5, _, d5, _, p5, _, rfl, rfl, rfl, h5, r5⟩ := trodAll_cons r4
  obtain ⟨rfl, rfl, rfl⟩ := trodAll_nil r5
  exact ⟨v0, v1, v2, v3, v4, v5, d0, d1, d2, d3, d4, d5, _, by cases args; simp_all, rfl, rfl, ⟨_, h0⟩, ⟨_, h1⟩, ⟨_, h2⟩, ⟨_, h3⟩, ⟨_, h4⟩, ⟨_, h5⟩⟩
end

/-- A number out of a value. -/
def numV : Value → Int
  | .int _ z => z
  | _ => 0

section
variable {H : Type} {enc : TypeId × Value → H}

theorem choice_cell {W : World} {n : Nat} {v : Value} {x : DataW H × List MemPlace} (h : DataW.trod enc Tryz.prog W 0 (fun _ => true) true n 59 [v] = some x) : v = .int .i64 (numV v) := by
  obtain ⟨f, hu, ht, ho⟩ := choice_struct
  obtain ⟨xs, m, -, -, -, hlen, hx⟩ := DataW.trod_struct hu h
  have h0 := hx 0 f rfl
  rw [ht, ho, cInt] at h0
  have hl : xs.length = 1 := by simpa using hlen
  rw [List.getElem?_eq_getElem (by omega)] at h0
  obtain ⟨z, hz, -, -⟩ := DataW.trod_int Tryz.underlying3 h0
  obtain rfl : v = .int .i64 z := by simpa using hz
  rfl

/-- An argument of type []Choice that has been read. -/
theorem choices_arg {W : World} {a0 : Option Addr} {n c : Nat} {d : DataW H} {ps : List MemPlace} (h : DataW.Trod enc Tryz.prog W 0 (fun _ => true) true 24 (.slice a0 n c) d ps) : ∃ l : List Int, l.length = n ∧ KeepsAt W (.slice a0 n c) l ∧ l.length ≤ 9223372036854775807 := by
  obtain ⟨fuel, hf⟩ := h
  rcases open_slice1 Tryz.underlying24 cChoice hf with ⟨hcs, -⟩ | ⟨a, len, cap, m, n', V, D, Pl, hcs, -, hl, hm, hmm, -, hx⟩
  · have hcs' : [Value.slice a0 n c] = [.slice none 0 0] := hcs
    obtain ⟨rfl, rfl, rfl⟩ : a0 = none ∧ n = 0 ∧ c = 0 := by simpa using hcs'
    exact ⟨[], rfl, .inl ⟨rfl, rfl⟩, by simp⟩
  · have hcs' : [Value.slice a0 n c] = [.slice (some a) len cap] := hcs
    obtain ⟨rfl, rfl, rfl⟩ : a0 = some a ∧ n = len ∧ c = cap := by simpa using hcs'
    have hmc : m = c := by rw [hmm]; rfl
    refine ⟨(List.range n).map fun i => numV (V i), by simp, .inr ⟨a, c, by simp, fun k hk => ?_⟩, by unfold maxLen at hm; simp; omega⟩
    have hk' : k < n := by simpa using hk
    obtain ⟨h1, h2⟩ := hx k (by omega)
    rw [h1]
    have := choice_cell h2
    simp only [List.getElem_map, List.getElem_range]
    rw [← this]

theorem cRow : Tryz.prog.cellsOf 56 = 1 := by kernel_rfl
/-- An argument of type [][]byte that has been read. -/
theorem rows_open {W : World} {a0 : Option Addr} {n c : Nat} {d : DataW H} {ps : List MemPlace} (h : DataW.Trod enc Tryz.prog W 0 (fun _ => true) true 52 (.slice a0 n c) d ps) :
    ∃ ls : List (List UInt8), ls.length = n ∧ n ≤ 9223372036854775807 ∧ RowsAt W a0 ls := by
  obtain ⟨fuel, hf⟩ := h
  rcases open_slice1 Tryz.underlying52 cRow hf with ⟨hcs, -⟩ | ⟨a, len, cap, m, k, V, D, Pl, hcs, -, hl, hm, hmm, -, hx⟩
  · have hcs' : [Value.slice a0 n c] = [.slice none 0 0] := hcs
    obtain ⟨rfl, rfl, rfl⟩ : a0 = none ∧ n = 0 ∧ c = 0 := by simpa using hcs'
    exact ⟨[], rfl, by simp, fun i h => by simp at h⟩
  · have hcs' : [Value.slice a0 n c] = [.slice (some a) len cap] := hcs
    obtain ⟨rfl, rfl, rfl⟩ : a0 = some a ∧ n = len ∧ c = cap := by simpa using hcs'
    have hmc : m = c := by rw [hmm]; rfl
    unfold maxLen at hm
    have hV : ∀ i, ∃ l : List UInt8, i < n → ∃ q n' c', V i = .slice q n' c' ∧ Row W (.slice q n' c') l := fun i => by
      by_cases hi : i < n
      · obtain ⟨q, n', c', l, hv, -, hr, -⟩ := row_read (hx i (by omega)).2
        exact ⟨l, fun _ => ⟨q, n', c', hv, hr⟩⟩
      · exact ⟨[], fun h => absurd h hi⟩
    obtain ⟨L, hL⟩ := Classical.axiomOfChoice hV
    refine ⟨(List.range n).map L, by simp, by omega, fun i hi => ?_⟩
    have hi' : i < n := by simpa using hi
    obtain ⟨q, n', c', hv, hr⟩ := hL i hi'
    have hc0 := (hx 0 (by omega)).1
    obtain ⟨b, o, spot⟩ := a
    have hspot : spot = none := by simpa [Addr.add] using World.cell?_spot hc0
    subst hspot
    refine ⟨b, o, q, n', c', rfl, ?_, by rw [List.getElem_map, List.getElem_range]; exact hr⟩
    have := (hx i (by omega)).1
    rw [Lib.add_plain] at this
    rw [this, hv]
end
end Go.Proofs.YtilplpjdbkipoaaGreatDoor
