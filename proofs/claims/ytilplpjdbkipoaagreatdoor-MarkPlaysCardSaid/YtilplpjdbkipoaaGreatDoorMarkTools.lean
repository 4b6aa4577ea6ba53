/-
  Proved: what stays of a mark's variable, of a row of bytes, while memory is made; two rows of marks held against one another. Conditions: as each says.
-/
import Derived.Test.YtilplpjdbkipoaaGreatDoorMarkKnown
import Derived.Test.YtilplpjdbkipoaaGreatDoorMarkDoes
import Derived.LoopTactic
namespace Go.Proofs.YtilplpjdbkipoaaGreatDoor
open Go Go.RowKit NetMath NetMem MarkMath SpanMath DiskMath

/-- A mark's variable beside a row of bytes, within a call that began at w. -/
def VarS (w : World) (q : Nat) (m : Mk) (v : Value) (l : List UInt8) (W : World) : Prop :=
  W.heap[q]? = some (.cells #[.int .i64 m.gen, .int .i64 m.n, .bool m.done, .int .i64 m.st, .string m.out] 35) ∧ Row W v l ∧ Below w.heap.size w W
theorem VarS.below {w : World} {q : Nat} {m : Mk} {v : Value} {l : List UInt8} {W W' : World} (h : VarS w q m v l W) (hb : Below W.heap.size W W') : VarS w q m v l W' :=
  ⟨(hb.block q (Array.getElem?_eq_some_iff.1 h.1).1).trans h.1, h.2.1.below hb, h.2.2.trans (hb.mono h.2.2.size)⟩
theorem VarS.held {w : World} {q : Nat} {gen n : Int} {done : Bool} {st : Int} {out : ByteArray} {v : Value} {l : List UInt8} {W : World} (h : VarS w q ⟨gen, n, done, st, out⟩ v l W) {s : ByteArray} (hs : (⟨l.toArray⟩ : ByteArray) = s) :
    (W.cell? ⟨q, 0, none⟩ = some (.int .i64 gen) ∧ W.cell? ⟨q, 1, none⟩ = some (.int .i64 n) ∧ W.cell? ⟨q, 2, none⟩ = some (.bool done) ∧ W.cell? ⟨q, 3, none⟩ = some (.int .i64 st) ∧ W.cell? ⟨q, 4, none⟩ = some (.string out)) ∧ (convert 56 9 v).run Tryz.prog W = .ok (.string s) W := by
  have := conv_any h.2.1
  rw [hs] at this
  exact ⟨five_cells h.1, this⟩

/-! ### Two rows of marks -/
/-- A row of marks that can be read. -/
def MksAt (w : World) (p : Option Addr) (l : List Mk) : Prop := ∀ i (h : i < l.length), ∃ b o, p = some ⟨b, o, none⟩ ∧
  w.cell? ⟨b, o + i * 5, none⟩ = some (.int .i64 l[i].gen) ∧ w.cell? ⟨b, o + i * 5 + 1, none⟩ = some (.int .i64 l[i].n) ∧ w.cell? ⟨b, o + i * 5 + 2, none⟩ = some (.bool l[i].done) ∧ w.cell? ⟨b, o + i * 5 + 3, none⟩ = some (.int .i64 l[i].st) ∧ w.cell? ⟨b, o + i * 5 + 4, none⟩ = some (.string l[i].out)
theorem mcells_at : ∀ (l : List Mk) (i : Nat) (h : i < l.length) (j : Nat), j < 5 → (mcells l)[i * 5 + j]? = (l[i].cells)[j]?
  | m :: l, 0, _, j, hj => by
    simp only [mcells, List.flatMap_cons, Nat.zero_mul, Nat.zero_add, List.getElem_cons_zero]
    exact List.getElem?_append_left (by show j < 5; exact hj)
  | m :: l, i + 1, h, j, hj => by
    have := mcells_at l i (by simpa using h) j hj
    simp only [mcells, List.flatMap_cons, List.getElem_cons_succ] at this ⊢
    rw [List.getElem?_append_right (by show 5 ≤ _; omega), ← this]
    congr 1
    show (i + 1) * 5 + j - 5 = _
    omega
theorem OwnM.at {w : World} {B : Nat} {v : Value} {l : List Mk} (h : OwnM w B v l) : ∃ p c, v = .slice p l.length c ∧ l.length ≤ c ∧ c ≤ maxLen ∧ MksAt w p l := by
  have hc := fun g hg => h.cells (g := g) hg
  rcases h.2 with ⟨rfl, h0⟩ | ⟨g, cap, cur, rfl, -, -, hle, hm, -⟩
  · exact ⟨none, 0, by rw [h0], by omega, by simp [maxLen], fun i hi => by omega⟩
  · refine ⟨some ⟨g, 0, none⟩, cap, rfl, hle, hm, fun i hi => ⟨g, 0, rfl, ?_⟩⟩
    have hx := fun j u hj (hu : (l[i].cells)[j]? = some u) => hc g rfl (i * 5 + j) u ((mcells_at l i hi j hj).trans hu)
    have hadd : ∀ j, (⟨g, 0, none⟩ : Addr).add j = ⟨g, 0 + j, none⟩ := fun j => Lib.add_plain _ _ _
    simp only [hadd] at hx
    exact ⟨by simpa using hx 0 _ (by omega) rfl, by simpa [Nat.add_assoc] using hx 1 _ (by omega) rfl, by simpa [Nat.add_assoc] using hx 2 _ (by omega) rfl, by simpa [Nat.add_assoc] using hx 3 _ (by omega) rfl, by simpa [Nat.add_assoc] using hx 4 _ (by omega) rfl⟩
theorem MksAt.below {w w' : World} {p : Option Addr} {l : List Mk} (h : MksAt w p l) (hb : Below w.heap.size w w') : MksAt w' p l := fun i hi => by
  obtain ⟨b, o, hp, h0, h1, h2, h3, h4⟩ := h i hi
  exact ⟨b, o, hp, by rw [hb.cell (p := ⟨b, _, none⟩) (lt_of_cell h0)]; exact h0, by rw [hb.cell (p := ⟨b, _, none⟩) (lt_of_cell h1)]; exact h1, by rw [hb.cell (p := ⟨b, _, none⟩) (lt_of_cell h2)]; exact h2, by rw [hb.cell (p := ⟨b, _, none⟩) (lt_of_cell h3)]; exact h3, by rw [hb.cell (p := ⟨b, _, none⟩) (lt_of_cell h4)]; exact h4⟩
theorem MksAt.take {w : World} {p : Option Addr} {l : List Mk} (h : MksAt w p l) (k : Nat) : MksAt w p (l.take k) := fun i hi => by
  have hi' : i < l.length := by rw [List.length_take] at hi; omega
  rw [List.getElem_take]
  exact h i hi'

/-- ONE ROW TWICE: they are one. -/
def RelQ (l : List Mk) (w : World) (i : Value) (wr : World) : Prop := ∃ k : Nat, k ≤ l.length ∧ i = .int .i64 (k : Int) ∧ Below w.heap.size w wr
set_option maxHeartbeats 4000000 in
set_option maxRecDepth 100000 in
theorem same_yes (p q : Option Addr) (c1 c2 : Nat) (l : List Mk) (w : World) (h1 : MksAt w p l) (h2 : MksAt w q l) (hl : l.length ≤ 100000) :
    Calls Tryz.prog 15 #[.slice p l.length c1, .slice q l.length c2] w fun e w' => e = .returned (.bool true) ∧ Below w.heap.size w w' := by
  have HH := Lib.hid (And.intro h1 (And.intro h2 hl))
  have hbe : ((l.length : Int) != (l.length : Int)) = false := by simp
  have hl0 : (l.length : Int) ≤ 100000 := by omega
  clear h1 h2 hl
  go_enter Tryz.func15, Tryz.ntmps15
  go_wp2_with fail
  go_loopw [5] (fun i wr => RelQ l w i wr) (fun i _ => l.length - (intOf i).toNat)
  case atStart => exact ⟨0, by omega, rfl, Below.refl _ _⟩
  case round =>
    obtain ⟨k, hk, rfl, hb⟩ := hrel
    have HB := Lib.hid hb
    by_cases hlt : k < l.length
    · obtain ⟨b, o, rfl, a0, a1, a2, a3, a4⟩ := (HH.out.1.below hb) k hlt
      obtain ⟨b', o', rfl, d0, d1, d2, d3, d4⟩ := (HH.out.2.1.below hb) k hlt
      have hk0 : (k : Int) < (l.length : Int) := by omega
      have HK := Lib.hid hlt
      generalize l[k] = m at a0 a1 a2 a3 a4 d0 d1 d2 d3 d4
      obtain ⟨gen, n, done, st, out⟩ := m
      simp only at a0 a1 a2 a3 a4 d0 d1 d2 d3 d4
      clear hlt hk hb
      go_wp2_with fail
      go_quiet (fail)
      go_wp2_with fail
      exact ⟨⟨k + 1, HK.out, by go_num, HB.out.trans (below_drewN _ _ _)⟩, by have := HK.out; simp [intOf]; omega⟩
    · have hk0 : ¬ (k : Int) < (l.length : Int) := by omega
      clear hlt hk hb
      go_wp2_with fail
      go_ret
      exact ⟨rfl, HB.out⟩
theorem same_no (p q : Option Addr) (n m c1 c2 : Nat) (w : World) (h : n ≠ m) :
    Calls Tryz.prog 15 #[.slice p n c1, .slice q m c2] w fun e w' => e = .returned (.bool false) ∧ w = w' := by
  have hbe : ((n : Int) != (m : Int)) = true := by simp; omega
  clear h
  go_enter Tryz.func15, Tryz.ntmps15
  go_wp2_with fail
  go_ret
  exact ⟨rfl, rfl⟩
end Go.Proofs.YtilplpjdbkipoaaGreatDoor
