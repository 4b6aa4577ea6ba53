/-
  Proved: what the rows of chapter 6's laws give of an argument that is a list of marks, a list of numbers, a crash. Conditions: as the rows say.
-/
import Derived.Test.YtilplpjdbkipoaaGreatDoorMarkFrame
import Derived.Test.YtilplpjdbkipoaaGreatDoorMarkTools
namespace Go.Proofs.YtilplpjdbkipoaaGreatDoor
open Go Go.ChangeShapes Go.WideShapes Go.ChangeAt Go.WideMaps Go.WideElems Go.RowKit Go.Deep NetMem MarkMath

theorem cAns : Tryz.prog.cellsOf 33 = 2 := by kernel_rfl
theorem cCrash : Tryz.prog.cellsOf 26 = 2 := by kernel_rfl
theorem cMark : Tryz.prog.cellsOf 35 = 5 := by kernel_rfl
theorem cBool : Tryz.prog.cellsOf 4 = 1 := by kernel_rfl
theorem cChoices : Tryz.prog.cellsOf 24 = 1 := by kernel_rfl
theorem ans_struct : ∃ f0 f1 : Field, Tryz.prog.underlying 33 = some (.struct #[f0, f1]) ∧ f0.type = 3 ∧ f0.offset = 0 ∧ f1.type = 9 ∧ f1.offset = 1 :=
  ⟨_, _, Tryz.underlying33, rfl, rfl, rfl, rfl⟩
theorem crash_struct : ∃ f0 f1 : Field, Tryz.prog.underlying 26 = some (.struct #[f0, f1]) ∧ f0.type = 3 ∧ f0.offset = 0 ∧ f1.type = 24 ∧ f1.offset = 1 :=
  ⟨_, _, Tryz.underlying26, rfl, rfl, rfl, rfl⟩
theorem mark_struct : ∃ f0 f1 f2 f3 : Field, Tryz.prog.underlying 35 = some (.struct #[f0, f1, f2, f3]) ∧ f0.type = 3 ∧ f0.offset = 0 ∧ f1.type = 3 ∧ f1.offset = 1 ∧ f2.type = 4 ∧ f2.offset = 2 ∧ f3.type = 33 ∧ f3.offset = 3 :=
  ⟨_, _, _, _, Tryz.underlying35, rfl, rfl, rfl, rfl, rfl, rfl, rfl, rfl⟩
/-- An answer, as it was handed in. -/
structure AnsV where
  st : Int
  out : ByteArray
/-- Marks that can be read, with their bounds. -/
def MksIn (W : World) (p : Option Addr) (ls : List Mk) : Prop := MksAt W p ls ∧ ∀ m ∈ ls, NetMath.I64 m.gen ∧ NetMath.I64 m.n ∧ NetMath.I64 m.st ∧ m.out.size ≤ maxLen
/-- Numbers that can be read. -/
def IntsAt (W : World) (p : Option Addr) (ls : List Int) : Prop := ∀ i (h : i < ls.length), ∃ b o, p = some ⟨b, o, none⟩ ∧ W.cell? ⟨b, o + i, none⟩ = some (.int .i64 ls[i]) ∧ NetMath.I64 ls[i]
/-- Five arguments that have been read. -/
theorem trodAll_five {H : Type} {enc : TypeId × Value → H} {P : Program} {w : World} {base : Nat} {spare : Nat → Bool} {held : Bool} {t0 t1 t2 t3 t4 : TypeId} {args : Array Value} {ds : List (DataW H)} {ps : List MemPlace} (h : DataW.TrodAll enc P w base spare held [t0, t1, t2, t3, t4] args.toList ds ps) :
    ∃ v0 v1 v2 v3 v4 d0 d1 d2 d3 d4, args = #[v0, v1, v2, v3, v4] ∧ ds = [d0, d1, d2, d3, d4] ∧ (∃ p, DataW.Trod enc P w base spare held t0 v0 d0 p) ∧ (∃ p, DataW.Trod enc P w base spare held t1 v1 d1 p) ∧ (∃ p, DataW.Trod enc P w base spare held t2 v2 d2 p) ∧
      (∃ p, DataW.Trod enc P w base spare held t3 v3 d3 p) ∧ ∃ p, DataW.Trod enc P w base spare held t4 v4 d4 p := by
  obtain ⟨v0, _, d0, _, p0, _, hargs, rfl, rfl, h0, r0⟩ := trodAll_cons h
  obtain ⟨v1, _, d1, _, p1, _, rfl, rfl, rfl, h1, r1⟩ := trodAll_cons r0
  obtain ⟨v2, _, d2, _, p2, _, rfl, rfl, rfl, h2, r2⟩ := trodAll_cons r1
  obtain ⟨v3, _, d3, _, p3, _, rfl, rfl, rfl, h3, r3⟩ := trodAll_cons r2
  obtain ⟨v4, _, d4, _, p4, _, rfl, rfl, rfl, h4, r4⟩ := trodAll_cons r3
  obtain ⟨rfl, rfl, rfl⟩ := trodAll_nil r4
  exact ⟨v0, v1, v2, v3, v4, d0, d1, d2, d3, d4, by cases args; simp_all, rfl, ⟨_, h0⟩, ⟨_, h1⟩, ⟨_, h2⟩, ⟨_, h3⟩, ⟨_, h4⟩⟩

section
variable {H : Type} {enc : TypeId × Value → H}

theorem ans_read {W : World} {fuel : Nat} {cs : List Value} {x : DataW H × List MemPlace} (hf : DataW.trod enc Tryz.prog W 0 (fun _ => true) true fuel 33 cs = some x) :
    ∃ y : AnsV, cs = [.int .i64 y.st, .string y.out] ∧ NetMath.I64 y.st ∧ y.out.size ≤ maxLen := by
  obtain ⟨f0, f1, hu, t0, o0, t1, o1⟩ := ans_struct
  obtain ⟨y0, y1, n, -, hl, h0, h1⟩ := trod_struct2 hu hf
  rw [cAns] at hl
  rw [t0, o0, cInt] at h0
  rw [t1, o1, cStr] at h1
  match cs, hl with
  | [c0, c1], _ =>
    simp only [List.drop_zero, List.drop_succ_cons, List.take_succ_cons, List.take_zero] at h0 h1
    obtain ⟨z, hz, -, hw⟩ := DataW.trod_int Tryz.underlying3 h0
    obtain ⟨s, hs, -, hm⟩ := DataW.trod_string Tryz.underlying9 h1
    obtain rfl : c0 = .int .i64 z := by simpa using hz
    obtain rfl : c1 = .string s := by simpa using hs
    have := bounds_i64 hw
    exact ⟨⟨z, s⟩, rfl, ⟨this.1, this.2⟩, hm⟩
set_option maxRecDepth 100000 in
/-- An argument of type Crash that has been read. -/
theorem crash_open {W : World} {base : Nat} {v : Value} {d : DataW H} {ps : List MemPlace} (hv : Value.okWide Tryz.prog W .any base 26 v) (h : DataW.Trod enc Tryz.prog W 0 (fun _ => true) true 26 v d ps) :
    ∃ at_ q c, ∃ l : List Int, v = .agg #[.int .i64 at_, .slice q l.length c] ∧ KeepsAt W (.slice q l.length c) l ∧ l.length ≤ 9223372036854775807 := by
  obtain ⟨f0, f1, hu, t0, o0, t1, o1⟩ := crash_struct
  obtain ⟨cs, rfl, hsz⟩ := okWide_struct hu hv
  obtain ⟨fuel, hf⟩ := h
  obtain ⟨y0, y1, n, -, hl, h0, h1⟩ := trod_struct2 hu hf
  rw [cCrash] at hl hsz
  rw [t0, o0, cInt] at h0
  rw [t1, o1, cChoices] at h1
  obtain ⟨c0, c1, rfl⟩ := Joins.array2 hsz
  simp only [Value.cells, List.drop_zero, List.drop_succ_cons, List.take_succ_cons, List.take_zero] at h0 h1
  obtain ⟨z, hz, -, -⟩ := DataW.trod_int Tryz.underlying3 h0
  obtain rfl : c0 = .int .i64 z := by simpa using hz
  have hq : ∃ q n c, c1 = .slice q n c := by
    rcases open_slice1 Tryz.underlying24 cChoice h1 with ⟨hcs, -⟩ | ⟨a, len, cap, m, n', V, D, Pl, hcs, -⟩
    · exact ⟨none, 0, 0, by simpa using hcs⟩
    · exact ⟨some a, len, cap, by simpa using hcs⟩
  obtain ⟨q, n, c, rfl⟩ := hq
  obtain ⟨l, rfl, h2, h3⟩ := choices_arg (d := y1.1) (ps := y1.2) ⟨_, h1⟩
  exact ⟨z, q, c, l, rfl, h2, h3⟩

theorem mark_read {W : World} {fuel : Nat} {cs : List Value} {x : DataW H × List MemPlace} (hf : DataW.trod enc Tryz.prog W 0 (fun _ => true) true fuel 35 cs = some x) :
    ∃ m : Mk, cs = m.cells ∧ NetMath.I64 m.gen ∧ NetMath.I64 m.n ∧ NetMath.I64 m.st ∧ m.out.size ≤ maxLen := by
  obtain ⟨f0, f1, f2, f3, hu, t0, o0, t1, o1, t2, o2, t3, o3⟩ := mark_struct
  obtain ⟨y0, y1, y2, y3, n, -, hl, h0, h1, h2, h3⟩ := Joins.trod_struct4 hu hf
  rw [cMark] at hl
  rw [t0, o0, cInt] at h0
  rw [t1, o1, cInt] at h1
  rw [t2, o2, cBool] at h2
  rw [t3, o3, cAns] at h3
  match cs, hl with
  | [c0, c1, c2, c3, c4], _ =>
    simp only [List.drop_zero, List.drop_succ_cons, List.take_succ_cons, List.take_zero] at h0 h1 h2 h3
    obtain ⟨g, hg, -, wg⟩ := DataW.trod_int Tryz.underlying3 h0
    obtain ⟨k, hk, -, wk⟩ := DataW.trod_int Tryz.underlying3 h1
    obtain ⟨b, hb, -⟩ := DataW.trod_bool Tryz.underlying4 h2
    obtain ⟨y, hy, hi, hm⟩ := ans_read h3
    obtain rfl : c0 = .int .i64 g := by simpa using hg
    obtain rfl : c1 = .int .i64 k := by simpa using hk
    obtain rfl : c2 = .bool b := by simpa using hb
    simp only [List.cons.injEq, and_true] at hy
    obtain ⟨rfl, rfl⟩ := hy
    have b1 := bounds_i64 wg
    have b2 := bounds_i64 wk
    exact ⟨⟨g, k, b, y.st, y.out⟩, rfl, ⟨b1.1, b1.2⟩, ⟨b2.1, b2.2⟩, hi, hm⟩
set_option maxRecDepth 100000 in
/-- An argument of type Mark that has been read. -/
theorem mark_open {W : World} {base : Nat} {v : Value} {d : DataW H} {ps : List MemPlace} (hv : Value.okWide Tryz.prog W .any base 35 v) (h : DataW.Trod enc Tryz.prog W 0 (fun _ => true) true 35 v d ps) :
    ∃ m : Mk, v = m.v ∧ NetMath.I64 m.gen ∧ NetMath.I64 m.n ∧ NetMath.I64 m.st ∧ m.out.size ≤ maxLen := by
  obtain ⟨f0, f1, f2, f3, hu, -⟩ := mark_struct
  obtain ⟨cs, rfl, -⟩ := okWide_struct hu hv
  obtain ⟨fuel, hf⟩ := h
  obtain ⟨m, hm, hr⟩ := mark_read hf
  refine ⟨m, ?_, hr⟩
  have hm' : cs.toList = m.cells := hm
  show Value.agg cs = _
  unfold Mk.v
  congr 1
  apply Array.ext'
  rw [hm']
  rfl
/-- An argument of type []Mark that has been read. -/
theorem marks_open {W : World} {a0 : Option Addr} {n c : Nat} {d : DataW H} {ps : List MemPlace} (h : DataW.Trod enc Tryz.prog W 0 (fun _ => true) true 22 (.slice a0 n c) d ps) :
    ∃ ls : List Mk, ls.length = n ∧ n ≤ 9223372036854775807 ∧ MksIn W a0 ls ∧ n ≤ c := by
  obtain ⟨fuel, hf⟩ := h
  rcases open_slice Tryz.underlying22 hf with ⟨hcs, -⟩ | ⟨a, len, cap, m, k, D, Pl, hcs, -, hl, hm, hmm, -, hx⟩
  · have hcs' : [Value.slice a0 n c] = [.slice none 0 0] := hcs
    obtain ⟨rfl, rfl, rfl⟩ : a0 = none ∧ n = 0 ∧ c = 0 := by simpa using hcs'
    exact ⟨[], rfl, by simp, ⟨fun i h => by simp at h, fun m h => by cases h⟩, Nat.le_refl _⟩
  · have hcs' : [Value.slice a0 n c] = [.slice (some a) len cap] := hcs
    obtain ⟨rfl, rfl, rfl⟩ : a0 = some a ∧ n = len ∧ c = cap := by simpa using hcs'
    have hmc : m = c := by rw [hmm]; rfl
    unfold maxLen at hm
    rw [cMark] at hx
    have hV : ∀ i, ∃ y : Mk, i < n → W.cells? 0 (a.add (i * 5)) 5 = some y.cells ∧ NetMath.I64 y.gen ∧ NetMath.I64 y.n ∧ NetMath.I64 y.st ∧ y.out.size ≤ maxLen := fun i => by
      by_cases hi : i < n
      · obtain ⟨cs, h1, h2⟩ := hx i (by omega)
        obtain ⟨y, rfl, h3⟩ := mark_read h2
        exact ⟨y, fun _ => ⟨h1, h3⟩⟩
      · exact ⟨Mk.none, fun h => absurd h hi⟩
    obtain ⟨L, hL⟩ := Classical.axiomOfChoice hV
    refine ⟨(List.range n).map L, by simp, by omega, ⟨fun i hi => ?_, fun m hm => ?_⟩, hl⟩
    · have hi' : i < n := by simpa using hi
      rw [List.getElem_map, List.getElem_range]
      obtain ⟨h1, -⟩ := hL i hi'
      obtain ⟨-, -, h5⟩ := World.cells?_some h1
      obtain ⟨b, o, spot⟩ := a
      have hspot : spot = none := by
        obtain ⟨-, -, h0⟩ := World.cells?_some (hL 0 (by omega)).1
        have := h0 0 (by show 0 < 5; omega)
        rw [Addr.add_add] at this
        simpa [Addr.add] using World.cell?_spot (show W.cell? _ = some (.int .i64 (L 0).gen) from this)
      subst hspot
      have h50 := h5 0 (by show 0 < 5; omega)
      have h51 := h5 1 (by show 1 < 5; omega)
      have h52 := h5 2 (by show 2 < 5; omega)
      have h53 := h5 3 (by show 3 < 5; omega)
      have h54 := h5 4 (by show 4 < 5; omega)
      rw [Lib.add_plain, Lib.add_plain] at h50 h51 h52 h53 h54
      simp only [Mk.cells, Nat.add_zero] at h50 h51 h52 h53 h54
      exact ⟨b, o, rfl, by simpa using h50, by simpa using h51, by simpa using h52, by simpa using h53, by simpa using h54⟩
    · obtain ⟨i, hi, rfl⟩ := List.mem_map.1 hm
      exact (hL i (by simpa using hi)).2
/-- An argument of type []int that has been read. -/
theorem ints_open {W : World} {a0 : Option Addr} {n c : Nat} {d : DataW H} {ps : List MemPlace} (h : DataW.Trod enc Tryz.prog W 0 (fun _ => true) true 23 (.slice a0 n c) d ps) :
    ∃ ls : List Int, ls.length = n ∧ IntsAt W a0 ls := by
  obtain ⟨fuel, hf⟩ := h
  rcases open_ints Tryz.underlying23 Tryz.underlying3 cInt hf with ⟨hcs, hxx⟩ | ⟨a, len, cap, zs, hcs, -, hl, hm, hz, hxx, hcell, hwz⟩
  · have hcs' : [Value.slice a0 n c] = [.slice none 0 0] := hcs
    obtain ⟨rfl, rfl, rfl⟩ : a0 = none ∧ n = 0 ∧ c = 0 := by simpa using hcs'
    exact ⟨[], rfl, fun i h => by simp at h⟩
  · have hcs' : [Value.slice a0 n c] = [.slice (some a) len cap] := hcs
    obtain ⟨rfl, rfl, rfl⟩ : a0 = some a ∧ n = len ∧ c = cap := by simpa using hcs'
    have hzc : zs.length = c := by simpa using hz
    refine ⟨zs.take n, by rw [List.length_take]; omega, fun i hi => ?_⟩
    rw [List.length_take] at hi
    obtain ⟨b, o, rfl, hc⟩ := ints_at hcell (by omega)
    have e1 : zs.getD i 0 = zs[i] := by simp [List.getD, show i < zs.length by omega]
    have hb := bounds_i64 (hwz _ (List.getElem_mem (show i < zs.length by omega)))
    refine ⟨b, o, rfl, ?_, ?_⟩
    · rw [hc i (by omega), List.getElem_take, e1]
    · rw [List.getElem_take]; exact ⟨hb.1, hb.2⟩
end
end Go.Proofs.YtilplpjdbkipoaaGreatDoor
