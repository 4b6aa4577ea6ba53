/-
  Proved: mark's Append and Scan by their model, beside rows of bytes, beside a row of marks. Conditions: as each says.
-/
import Derived.Test.YtilplpjdbkipoaaDoorMarkTools
namespace Go.Proofs.YtilplpjdbkipoaaDoor
open Go Go.RowKit NetMath NetMem MarkMath SpanMath DiskMath

theorem append_st {w0 W : World} {p : Value} {d d' : Dk} {rows : List (Value × List UInt8)} (h : St w0 W p d rows) (hg : NetP.Glob w0) (at_ : Int) (gen n : Int) (done : Bool) (st : Int) (out : ByteArray) (hs : I64 st) (ho : out.size ≤ 900000)
    {nx e0 : Int} (he : markAppend d at_ ⟨gen, n, done, st, out⟩ = (nx, e0, d')) (hn : d.n + 2000000 < 4611686018427387904) (hp : d.p.length + 2000000 < 4294967296) :
    Calls Tryd.prog 17 #[p, .int .i64 at_, .agg #[.int .i64 gen, .int .i64 n, .bool done, .int .i64 st, .string out]] W fun e w' => e = .returned (.tuple #[.int .i64 nx, .int .i64 e0]) ∧ St w0 w' p d' rows := by
  have hb0 := h.old
  obtain ⟨D, hd, hbw, hD, hrr⟩ := h
  have := append_at hd at_ gen n done st out hs ho (hg.below hb0) hn hp
  rw [he] at this
  exact this.mono fun e w' ⟨h1, h2⟩ => ⟨h1, St.of_step hbw hD hrr h2⟩
theorem scan_st {w0 W : World} {p : Value} {d : Dk} {rows : List (Value × List UInt8)} (h : St w0 W p d rows) (hg : NetP.Glob w0) (gen : Int) {l : List Mk} {z : Nat} (he : markScan d gen = (l, z)) {Z : Int} (hz : (z : Int) = Z) :
    Calls Tryd.prog 19 #[p, .int .i64 gen] W fun e w' => ∃ q c, e = .returned (.tuple #[.slice q l.length c, .int .i64 Z]) ∧ OwnM w' W.heap.size (.slice q l.length c) l ∧ MksAt w' q l ∧ l.length ≤ c ∧ St w0 w' p d rows ∧ Below W.heap.size W w' := by
  have hh := h
  obtain ⟨D, hd, hbw, hD, hrr⟩ := h
  have := scan_at hd gen (hg.below hbw)
  rw [he] at this
  subst hz
  refine this.mono fun e w' ⟨v, h1, h2, h3⟩ => ?_
  obtain ⟨q, c, rfl, hc, -, hm⟩ := h2.at
  exact ⟨q, c, h1, h2, hm, hc, hh.below h3, h3⟩

/-- A disk beside a row of marks that the call owns, within a call that began at w0. -/
def StM (w0 W : World) (p : Value) (d : Dk) (v : Value) (l : List Mk) : Prop :=
  ∃ D, DiskAt W D p d ∧ Below w0.heap.size w0 W ∧ (∀ k, D k → w0.heap.size ≤ k) ∧ OwnM W w0.heap.size v l ∧ ∀ k, v.ownBlock = some k → ¬ D k
section
variable {w0 W : World} {p : Value} {d : Dk} {v : Value} {l : List Mk}
theorem StM.old (h : StM w0 W p d v l) : Below w0.heap.size w0 W := by
  obtain ⟨D, -, hb, -⟩ := h; exact hb
theorem StM.of_st (h : St w0 W p d []) : StM w0 W p d (.slice none 0 0) [] := by
  obtain ⟨D, hd, hb, hD, -⟩ := h
  exact ⟨D, hd, hb, hD, OwnM.nil _ _, fun k hk => by simp [Value.ownBlock] at hk⟩
theorem StM.st (h : StM w0 W p d v l) : St w0 W p d [] := by
  obtain ⟨D, hd, hb, hD, -⟩ := h
  exact ⟨D, hd, hb, hD, fun r hr => by cases hr⟩
theorem StM.row (h : StM w0 W p d v l) : OwnM W w0.heap.size v l := by
  obtain ⟨D, -, -, -, ho, -⟩ := h; exact ho
theorem StM.below {W' : World} (h : StM w0 W p d v l) (hb' : Below W.heap.size W W') : StM w0 W' p d v l := by
  obtain ⟨D, hd, hb, hD, ho, hn⟩ := h
  exact ⟨D, hd.below hb', hb.trans (hb'.mono hb.size), hD, ho.below hb', hn⟩
theorem StM.of_step {W' : World} {D : Nat → Prop} {d' : Dk} (hb : Below w0.heap.size w0 W) (hD : ∀ k, D k → w0.heap.size ≤ k) (ho : OwnM W w0.heap.size v l) (hn : ∀ k, v.ownBlock = some k → ¬ D k) (h2 : Step D W W' p d') : StM w0 W' p d' v l := by
  obtain ⟨D', hd', hk, hD'⟩ := h2
  refine ⟨D', hd', hb.trans (hk.below hD hb.size), fun k hk' => (hD' k hk').elim (hD k) fun h => Nat.le_trans hb.size h, ownsRow_block ho fun k hk' => hk.block k (ho.lt k hk').2 (hn k hk'), fun k hk' h => (hD' k h).elim (hn k hk') fun h => by have := (ho.lt k hk').2; omega⟩
/-- The row grows. -/
theorem StM.grown {W' : World} {v' : Value} {l' : List Mk} {g : Nat} (h : StM w0 W p d v l) (ho : OwnM W' w0.heap.size v' l') (hg : W.grownBy W' v.ownBlock) (hv : v'.ownBlock = some g) (hat : v.ownBlock = some g ∨ W.heap.size ≤ g) : StM w0 W' p d v' l' := by
  obtain ⟨D, hd, hb, hD, ho0, hn⟩ := h
  refine ⟨D, ?_, hb.grown hg hb.size fun k hk => (ho0.lt k hk).1, hD, ho, fun k hk hd' => ?_⟩
  · exact hd.far (E := fun k => v.ownBlock = some k) ⟨hg.os, hg.tape, hg.output, hg.size, fun k h1 h2 => hg.block k h1 fun e => h2 e.symm⟩ fun k h1 h2 => hn k h2 h1
  · rw [hv] at hk
    cases hk
    rcases hat with hat | hat
    · exact hn _ hat hd'
    · have := hd.lt hd'; omega
theorem append_sm {d' : Dk} (h : StM w0 W p d v l) (hg : NetP.Glob w0) (at_ : Int) (gen n : Int) (done : Bool) (st : Int) (out : ByteArray) (hs : I64 st) (ho : out.size ≤ 900000)
    {nx e0 : Int} (he : markAppend d at_ ⟨gen, n, done, st, out⟩ = (nx, e0, d')) (hn : d.n + 2000000 < 4611686018427387904) (hp : d.p.length + 2000000 < 4294967296) :
    Calls Tryd.prog 17 #[p, .int .i64 at_, .agg #[.int .i64 gen, .int .i64 n, .bool done, .int .i64 st, .string out]] W fun e w' => e = .returned (.tuple #[.int .i64 nx, .int .i64 e0]) ∧ StM w0 w' p d' v l := by
  obtain ⟨D, hd, hbw, hD, ho', hn'⟩ := h
  have := append_at hd at_ gen n done st out hs ho (hg.below hbw) hn hp
  rw [he] at this
  exact this.mono fun e w' ⟨h1, h2⟩ => ⟨h1, StM.of_step hbw hD ho' hn' h2⟩
theorem arm_sm {d' : Dk} (h : StM w0 W p d v l) (at_ : Int) {a : Value} {k : List Int} (hk : KeepsAt W a k) (hm : k.length ≤ 4294967296) (he : d.arm at_ k = d') :
    Calls Tryd.prog 16 #[p, .agg #[.int .i64 at_, a]] W fun e w' => e = .returned (.tuple #[]) ∧ StM w0 w' p d' v l := by
  obtain ⟨D, hd, hb, hD, ho, hn⟩ := h
  subst he
  exact (arm_at hd at_ a k hk hm).mono fun e w' ⟨h1, h2⟩ => ⟨h1, StM.of_step hb hD ho hn h2⟩
theorem restart_sm {d' : Dk} (h : StM w0 W p d v l) (he : d.restart = d') :
    Calls Tryd.prog 15 #[p] W fun e w' => e = .returned (.tuple #[]) ∧ StM w0 w' p d' v l := by
  obtain ⟨D, hd, hb, hD, ho, hn⟩ := h
  subst he
  exact (restart_at hd).mono fun e w' ⟨h1, h2⟩ => ⟨h1, StM.of_step hb hD ho hn h2⟩
end
end Go.Proofs.YtilplpjdbkipoaaDoor
