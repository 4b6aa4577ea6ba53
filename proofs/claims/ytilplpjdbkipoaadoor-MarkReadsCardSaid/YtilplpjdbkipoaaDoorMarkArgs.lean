/-
  Proved: what the rows of chapter 6's laws give of an argument that is a mark, a list of answers, a crash. Conditions: as the rows say.
-/
import Derived.Test.YtilplpjdbkipoaaDoorMarkFrame
namespace Go.Proofs.YtilplpjdbkipoaaDoor
open Go Go.ChangeShapes Go.WideShapes Go.ChangeAt Go.WideMaps Go.WideElems Go.RowKit Go.Deep NetMem MarkMath

theorem cAns : Tryd.prog.cellsOf 23 = 2 := by kernel_rfl
theorem cCrash : Tryd.prog.cellsOf 36 = 2 := by kernel_rfl
theorem cMark : Tryd.prog.cellsOf 25 = 5 := by kernel_rfl
theorem cBool : Tryd.prog.cellsOf 4 = 1 := by kernel_rfl
theorem cChoices : Tryd.prog.cellsOf 34 = 1 := by kernel_rfl
theorem ans_struct : ∃ f0 f1 : Field, Tryd.prog.underlying 23 = some (.struct #[f0, f1]) ∧ f0.type = 3 ∧ f0.offset = 0 ∧ f1.type = 9 ∧ f1.offset = 1 :=
  ⟨_, _, Tryd.underlying23, rfl, rfl, rfl, rfl⟩
theorem crash_struct : ∃ f0 f1 : Field, Tryd.prog.underlying 36 = some (.struct #[f0, f1]) ∧ f0.type = 3 ∧ f0.offset = 0 ∧ f1.type = 34 ∧ f1.offset = 1 :=
  ⟨_, _, Tryd.underlying36, rfl, rfl, rfl, rfl⟩
theorem mark_struct : ∃ f0 f1 f2 f3 : Field, Tryd.prog.underlying 25 = some (.struct #[f0, f1, f2, f3]) ∧ f0.type = 3 ∧ f0.offset = 0 ∧ f1.type = 3 ∧ f1.offset = 1 ∧ f2.type = 4 ∧ f2.offset = 2 ∧ f3.type = 23 ∧ f3.offset = 3 :=
  ⟨_, _, _, _, Tryd.underlying25, rfl, rfl, rfl, rfl, rfl, rfl, rfl, rfl⟩
/-- An answer, as it was handed in. -/
structure AnsV where
  st : Int
  out : ByteArray
/-- Answers that can be read. -/
def AnsAt (W : World) (p : Option Addr) (ls : List AnsV) : Prop := ∀ i (h : i < ls.length), ∃ b o, p = some ⟨b, o, none⟩ ∧ W.cell? ⟨b, o + i * 2, none⟩ = some (.int .i64 ls[i].st) ∧ W.cell? ⟨b, o + i * 2 + 1, none⟩ = some (.string ls[i].out) ∧ NetMath.I64 ls[i].st ∧ ls[i].out.size ≤ maxLen
theorem AnsAt.below {w w' : World} {p : Option Addr} {l : List AnsV} (h : AnsAt w p l) (hb : Below w.heap.size w w') : AnsAt w' p l := fun i hi => by
  obtain ⟨b, o, hp, h0, h1, h2⟩ := h i hi
  exact ⟨b, o, hp, by rw [hb.cell (p := ⟨b, _, none⟩) (lt_of_cell h0)]; exact h0, by rw [hb.cell (p := ⟨b, _, none⟩) (lt_of_cell h1)]; exact h1, h2⟩

section
variable {H : Type} {enc : TypeId × Value → H}

theorem ans_read {W : World} {fuel : Nat} {cs : List Value} {x : DataW H × List MemPlace} (hf : DataW.trod enc Tryd.prog W 0 (fun _ => true) true fuel 23 cs = some x) :
    ∃ y : AnsV, cs = [.int .i64 y.st, .string y.out] ∧ NetMath.I64 y.st ∧ y.out.size ≤ maxLen := by
  obtain ⟨f0, f1, hu, t0, o0, t1, o1⟩ := ans_struct
  obtain ⟨y0, y1, n, -, hl, h0, h1⟩ := trod_struct2 hu hf
  rw [cAns] at hl
  rw [t0, o0, cInt] at h0
  rw [t1, o1, cStr] at h1
  match cs, hl with
  | [c0, c1], _ =>
    simp only [List.drop_zero, List.drop_succ_cons, List.take_succ_cons, List.take_zero] at h0 h1
    obtain ⟨z, hz, -, hw⟩ := DataW.trod_int Tryd.underlying3 h0
    obtain ⟨s, hs, -, hm⟩ := DataW.trod_string Tryd.underlying9 h1
    obtain rfl : c0 = .int .i64 z := by simpa using hz
    obtain rfl : c1 = .string s := by simpa using hs
    have := bounds_i64 hw
    exact ⟨⟨z, s⟩, rfl, ⟨this.1, this.2⟩, hm⟩
/-- An argument of type []Answer that has been read. -/
theorem answers_open {W : World} {a0 : Option Addr} {n c : Nat} {d : DataW H} {ps : List MemPlace} (h : DataW.Trod enc Tryd.prog W 0 (fun _ => true) true 33 (.slice a0 n c) d ps) :
    ∃ ls : List AnsV, ls.length = n ∧ n ≤ 9223372036854775807 ∧ AnsAt W a0 ls ∧ n ≤ c := by
  obtain ⟨fuel, hf⟩ := h
  rcases open_slice Tryd.underlying33 hf with ⟨hcs, -⟩ | ⟨a, len, cap, m, k, D, Pl, hcs, -, hl, hm, hmm, -, hx⟩
  · have hcs' : [Value.slice a0 n c] = [.slice none 0 0] := hcs
    obtain ⟨rfl, rfl, rfl⟩ : a0 = none ∧ n = 0 ∧ c = 0 := by simpa using hcs'
    exact ⟨[], rfl, by simp, fun i h => by simp at h, Nat.le_refl _⟩
  · have hcs' : [Value.slice a0 n c] = [.slice (some a) len cap] := hcs
    obtain ⟨rfl, rfl, rfl⟩ : a0 = some a ∧ n = len ∧ c = cap := by simpa using hcs'
    have hmc : m = c := by rw [hmm]; rfl
    unfold maxLen at hm
    rw [cAns] at hx
    have hV : ∀ i, ∃ y : AnsV, i < n → W.cells? 0 (a.add (i * 2)) 2 = some [.int .i64 y.st, .string y.out] ∧ NetMath.I64 y.st ∧ y.out.size ≤ maxLen := fun i => by
      by_cases hi : i < n
      · obtain ⟨cs, h1, h2⟩ := hx i (by omega)
        obtain ⟨y, rfl, h3⟩ := ans_read h2
        exact ⟨y, fun _ => ⟨h1, h3⟩⟩
      · exact ⟨⟨0, noB⟩, fun h => absurd h hi⟩
    obtain ⟨L, hL⟩ := Classical.axiomOfChoice hV
    refine ⟨(List.range n).map L, by simp, by omega, fun i hi => ?_, hl⟩
    have hi' : i < n := by simpa using hi
    rw [List.getElem_map, List.getElem_range]
    obtain ⟨h1, h2, h3⟩ := hL i hi'
    obtain ⟨-, -, h5⟩ := World.cells?_some h1
    obtain ⟨b, o, spot⟩ := a
    have hspot : spot = none := by
      obtain ⟨-, -, h0⟩ := World.cells?_some (hL 0 (by omega)).1
      have := h0 0 (by omega)
      rw [Addr.add_add] at this
      simpa [Addr.add] using World.cell?_spot (show W.cell? _ = some (.int .i64 (L 0).st) from this)
    subst hspot
    have hc := fun j hj => h5 j hj
    have h50 := hc 0 (by omega)
    have h51 := hc 1 (by omega)
    rw [Lib.add_plain, Lib.add_plain] at h50 h51
    exact ⟨b, o, rfl, by simpa using h50, by simpa using h51, h2, h3⟩

set_option maxRecDepth 100000 in
/-- An argument of type Crash that has been read. -/
theorem crash_open {W : World} {base : Nat} {v : Value} {d : DataW H} {ps : List MemPlace} (hv : Value.okWide Tryd.prog W .any base 36 v) (h : DataW.Trod enc Tryd.prog W 0 (fun _ => true) true 36 v d ps) :
    ∃ at_ q c, ∃ l : List Int, v = .agg #[.int .i64 at_, .slice q l.length c] ∧ KeepsAt W (.slice q l.length c) l ∧ l.length ≤ 9223372036854775807 := by
  obtain ⟨f0, f1, hu, t0, o0, t1, o1⟩ := crash_struct
  obtain ⟨cs, rfl, hsz⟩ := okWide_struct hu hv
  obtain ⟨fuel, hf⟩ := h
  obtain ⟨y0, y1, n, -, hl, h0, h1⟩ := trod_struct2 hu hf
  rw [cCrash] at hl hsz
  rw [t0, o0, cInt] at h0
  rw [t1, o1, cChoices] at h1
  obtain ⟨c0, c1, rfl⟩ := Joins.array2 hsz
  simp only [Value.cells, List.drop_zero, List.drop_succ_cons, List.take_succ_cons, List.take_zero] at h0 h1
  obtain ⟨z, hz, -, -⟩ := DataW.trod_int Tryd.underlying3 h0
  obtain rfl : c0 = .int .i64 z := by simpa using hz
  have hq : ∃ q n c, c1 = .slice q n c := by
    rcases open_slice1 Tryd.underlying34 cChoice h1 with ⟨hcs, -⟩ | ⟨a, len, cap, m, n', V, D, Pl, hcs, -⟩
    · exact ⟨none, 0, 0, by simpa using hcs⟩
    · exact ⟨some a, len, cap, by simpa using hcs⟩
  obtain ⟨q, n, c, rfl⟩ := hq
  obtain ⟨l, rfl, h2, h3⟩ := choices_arg (d := y1.1) (ps := y1.2) ⟨_, h1⟩
  exact ⟨z, q, c, l, rfl, h2, h3⟩

theorem mark_read {W : World} {fuel : Nat} {cs : List Value} {x : DataW H × List MemPlace} (hf : DataW.trod enc Tryd.prog W 0 (fun _ => true) true fuel 25 cs = some x) :
    ∃ m : Mk, cs = m.cells ∧ NetMath.I64 m.gen ∧ NetMath.I64 m.n ∧ NetMath.I64 m.st ∧ m.out.size ≤ maxLen := by
  obtain ⟨f0, f1, f2, f3, hu, t0, o0, t1, o1, t2, o2, t3, o3⟩ := mark_struct
  obtain ⟨y0, y1, y2, y3, n, -, hl, h0, h1, h2, h3⟩ := Joins.trod_struct4 hu hf
  rw [cMark] at hl
  rw [t0, o0, cInt] at h0
  rw [t1, o1, cInt] at h1
  rw [t2, o2, cBool] at h2
  rw [t3, o3, cAns] at h3
  match cs, hl with
  | [c0, c1, c2, c3, c4], _ =>
    simp only [List.drop_zero, List.drop_succ_cons, List.take_succ_cons, List.take_zero] at h0 h1 h2 h3
    obtain ⟨g, hg, -, wg⟩ := DataW.trod_int Tryd.underlying3 h0
    obtain ⟨k, hk, -, wk⟩ := DataW.trod_int Tryd.underlying3 h1
    obtain ⟨b, hb, -⟩ := DataW.trod_bool Tryd.underlying4 h2
    obtain ⟨y, hy, hi, hm⟩ := ans_read h3
    obtain rfl : c0 = .int .i64 g := by simpa using hg
    obtain rfl : c1 = .int .i64 k := by simpa using hk
    obtain rfl : c2 = .bool b := by simpa using hb
    simp only [List.cons.injEq, and_true] at hy
    obtain ⟨rfl, rfl⟩ := hy
    have b1 := bounds_i64 wg
    have b2 := bounds_i64 wk
    exact ⟨⟨g, k, b, y.st, y.out⟩, rfl, ⟨b1.1, b1.2⟩, ⟨b2.1, b2.2⟩, hi, hm⟩
set_option maxRecDepth 100000 in
/-- An argument of type Mark that has been read. -/
theorem mark_open {W : World} {base : Nat} {v : Value} {d : DataW H} {ps : List MemPlace} (hv : Value.okWide Tryd.prog W .any base 25 v) (h : DataW.Trod enc Tryd.prog W 0 (fun _ => true) true 25 v d ps) :
    ∃ m : Mk, v = m.v ∧ NetMath.I64 m.gen ∧ NetMath.I64 m.n ∧ NetMath.I64 m.st ∧ m.out.size ≤ maxLen := by
  obtain ⟨f0, f1, f2, f3, hu, -⟩ := mark_struct
  obtain ⟨cs, rfl, -⟩ := okWide_struct hu hv
  obtain ⟨fuel, hf⟩ := h
  obtain ⟨m, hm, hr⟩ := mark_read hf
  refine ⟨m, ?_, hr⟩
  have hm' : cs.toList = m.cells := hm
  show Value.agg cs = _
  unfold Mk.v
  congr 1
  apply Array.ext'
  rw [hm']
  rfl
end
end Go.Proofs.YtilplpjdbkipoaaDoor
