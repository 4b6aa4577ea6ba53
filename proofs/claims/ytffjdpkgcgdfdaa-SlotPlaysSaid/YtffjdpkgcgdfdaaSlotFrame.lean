/-
  Proved: what the rows of chapter 5's laws give of an argument that is a list of acts. Conditions: as the rows say.
-/
import Derived.Test.YtffjdpkgcgdfdaaSpanFrame
import Derived.Lib.SmallJoins
namespace Go.Proofs.Ytffjdpkgcgdfdaa
open Go Go.ChangeShapes Go.WideShapes Go.ChangeAt Go.WideMaps Go.WideElems Go.RowKit Go.Deep NetMem

/-- An act, as it was handed in. -/
structure ActV where
  q : Option Addr
  c : Nat
  b : List UInt8
  arm : Bool
  at_ : Int
  lq : Option Addr
  lc : Nat
  left : List Int
  gen : Int
def ActV.cells (x : ActV) : List Value := [.slice x.q x.b.length x.c, .bool x.arm, .int .i64 x.at_, .slice x.lq x.left.length x.lc, .int .i64 x.gen]
/-- Acts that can be read. -/
def ActsAt (W : World) (a0 : Option Addr) (ls : List ActV) : Prop := ∀ i (h : i < ls.length), ∃ b o, a0 = some ⟨b, o, none⟩ ∧ W.rangeAt b (o + i * 5) ls[i].cells ∧
  Row W (.slice ls[i].q ls[i].b.length ls[i].c) ls[i].b ∧ KeepsAt W (.slice ls[i].lq ls[i].left.length ls[i].lc) ls[i].left ∧ ls[i].left.length ≤ 9223372036854775807

theorem cAct : Try.prog.cellsOf 32 = 5 := by kernel_rfl
theorem cCrash : Try.prog.cellsOf 30 = 2 := by kernel_rfl
theorem cBool : Try.prog.cellsOf 4 = 1 := by kernel_rfl
theorem cChoices : Try.prog.cellsOf 28 = 1 := by kernel_rfl
theorem act_struct : ∃ f0 f1 f2 f3 : Field, Try.prog.underlying 32 = some (.struct #[f0, f1, f2, f3]) ∧ f0.type = 27 ∧ f0.offset = 0 ∧ f1.type = 4 ∧ f1.offset = 1 ∧ f2.type = 30 ∧ f2.offset = 2 ∧ f3.type = 3 ∧ f3.offset = 4 :=
  ⟨_, _, _, _, Try.underlying32, rfl, rfl, rfl, rfl, rfl, rfl, rfl, rfl⟩
theorem crash_struct : ∃ f0 f1 : Field, Try.prog.underlying 30 = some (.struct #[f0, f1]) ∧ f0.type = 3 ∧ f0.offset = 0 ∧ f1.type = 28 ∧ f1.offset = 1 :=
  ⟨_, _, Try.underlying30, rfl, rfl, rfl, rfl⟩

section
variable {H : Type} {enc : TypeId × Value → H}

theorem choices_read {W : World} {fuel : Nat} {v : Value} {x : DataW H × List MemPlace} (hf : DataW.trod enc Try.prog W 0 (fun _ => true) true fuel 28 [v] = some x) : ∃ q n c, ∃ l : List Int, v = .slice q n c ∧ l.length = n ∧ KeepsAt W (.slice q n c) l ∧ l.length ≤ 9223372036854775807 := by
  have hv : ∃ q n c, v = .slice q n c := by
    rcases open_slice1 Try.underlying28 cChoice hf with ⟨hcs, -⟩ | ⟨a, len, cap, m, n', V, D, Pl, hcs, -⟩
    · exact ⟨none, 0, 0, by simpa using hcs⟩
    · exact ⟨some a, len, cap, by simpa using hcs⟩
  obtain ⟨q, n, c, rfl⟩ := hv
  obtain ⟨l, h1, h2, h3⟩ := choices_arg (d := x.1) (ps := x.2) ⟨fuel, hf⟩
  exact ⟨q, n, c, l, rfl, h1, h2, h3⟩

theorem act_read {W : World} {fuel : Nat} {cs : List Value} {x : DataW H × List MemPlace} (hf : DataW.trod enc Try.prog W 0 (fun _ => true) true fuel 32 cs = some x) :
    ∃ y : ActV, cs = y.cells ∧ Row W (.slice y.q y.b.length y.c) y.b ∧ KeepsAt W (.slice y.lq y.left.length y.lc) y.left ∧ y.left.length ≤ 9223372036854775807 := by
  obtain ⟨f0, f1, f2, f3, hu, t0, o0, t1, o1, t2, o2, t3, o3⟩ := act_struct
  obtain ⟨y0, y1, y2, y3, n, -, hl, h0, h1, h2, h3⟩ := Joins.trod_struct4 hu hf
  rw [cAct] at hl
  rw [t0, o0, cRow] at h0
  rw [t1, o1, cBool] at h1
  rw [t2, o2, cCrash] at h2
  rw [t3, o3, cInt] at h3
  match cs, hl with
  | [c0, c1, c2, c3, c4], _ =>
    simp only [List.drop_zero, List.drop_succ_cons, List.take_succ_cons, List.take_zero] at h0 h1 h2 h3
    obtain ⟨q, m, c, b, rfl, hb, hr, -⟩ := row_read h0
    obtain ⟨arm, ha, -⟩ := DataW.trod_bool Try.underlying4 h1
    obtain ⟨z, hz, -, -⟩ := DataW.trod_int Try.underlying3 h3
    obtain ⟨g0, g1, gu, s0, p0, s1, p1⟩ := crash_struct
    obtain ⟨z0, z1, n', -, -, k0, k1⟩ := trod_struct2 gu h2
    rw [s0, p0, cInt] at k0
    rw [s1, p1, cChoices] at k1
    simp only [List.drop_zero, List.drop_succ_cons, List.take_succ_cons, List.take_zero] at k0 k1
    obtain ⟨zat, hat, -, -⟩ := DataW.trod_int Try.underlying3 k0
    obtain ⟨lq, lm, lc, l, rfl, hll, hk, hlm⟩ := choices_read k1
    subst hb hll
    obtain rfl : c1 = .bool arm := by simpa using ha
    obtain rfl : c2 = .int .i64 zat := by simpa using hat
    obtain rfl : c4 = .int .i64 z := by simpa using hz
    exact ⟨⟨q, c, b, arm, zat, lq, lc, l, z⟩, rfl, hr, hk, hlm⟩

/-- An argument of type []Act that has been read. -/
theorem acts_open {W : World} {a0 : Option Addr} {n c : Nat} {d : DataW H} {ps : List MemPlace} (h : DataW.Trod enc Try.prog W 0 (fun _ => true) true 22 (.slice a0 n c) d ps) :
    ∃ ls : List ActV, ls.length = n ∧ n ≤ 9223372036854775807 ∧ ActsAt W a0 ls := by
  obtain ⟨fuel, hf⟩ := h
  rcases open_slice Try.underlying22 hf with ⟨hcs, -⟩ | ⟨a, len, cap, m, k, D, Pl, hcs, -, hl, hm, hmm, -, hx⟩
  · have hcs' : [Value.slice a0 n c] = [.slice none 0 0] := hcs
    obtain ⟨rfl, rfl, rfl⟩ : a0 = none ∧ n = 0 ∧ c = 0 := by simpa using hcs'
    exact ⟨[], rfl, by simp, fun i h => by simp at h⟩
  · have hcs' : [Value.slice a0 n c] = [.slice (some a) len cap] := hcs
    obtain ⟨rfl, rfl, rfl⟩ : a0 = some a ∧ n = len ∧ c = cap := by simpa using hcs'
    have hmc : m = c := by rw [hmm]; rfl
    unfold maxLen at hm
    rw [cAct] at hx
    have hV : ∀ i, ∃ y : ActV, i < n → W.cells? 0 (a.add (i * 5)) 5 = some y.cells ∧ Row W (.slice y.q y.b.length y.c) y.b ∧ KeepsAt W (.slice y.lq y.left.length y.lc) y.left ∧ y.left.length ≤ 9223372036854775807 := fun i => by
      by_cases hi : i < n
      · obtain ⟨cs, h1, h2⟩ := hx i (by omega)
        obtain ⟨y, rfl, h3⟩ := act_read h2
        exact ⟨y, fun _ => ⟨h1, h3⟩⟩
      · exact ⟨⟨none, 0, [], false, 0, none, 0, [], 0⟩, fun h => absurd h hi⟩
    obtain ⟨L, hL⟩ := Classical.axiomOfChoice hV
    refine ⟨(List.range n).map L, by simp, by omega, fun i hi => ?_⟩
    have hi' : i < n := by simpa using hi
    rw [List.getElem_map, List.getElem_range]
    obtain ⟨h1, h2, h3, h4⟩ := hL i hi'
    obtain ⟨-, -, h5⟩ := World.cells?_some h1
    obtain ⟨b, o, spot⟩ := a
    have hspot : spot = none := by
      obtain ⟨-, -, h0⟩ := World.cells?_some (hL 0 (by omega)).1
      have := h0 0 (by omega)
      rw [Addr.add_add] at this
      simpa [Addr.add] using World.cell?_spot (show W.cell? _ = some (.slice (L 0).q (L 0).b.length (L 0).c) from this)
    subst hspot
    refine ⟨b, o, rfl, fun j v hv => ?_, h2, h3, h4⟩
    have hj : j < 5 := (List.getElem?_eq_some_iff.1 hv).1
    have := h5 j hj
    rw [Lib.add_plain, Lib.add_plain, hv] at this
    exact this
end
end Go.Proofs.Ytffjdpkgcgdfdaa
