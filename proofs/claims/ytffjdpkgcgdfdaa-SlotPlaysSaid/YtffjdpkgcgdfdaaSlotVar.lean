/-
  Proved: slot's calls by their model, beside variables that the caller has made. Conditions: as each says.
-/
import Derived.Test.YtffjdpkgcgdfdaaSlotKnown
namespace Go.Proofs.Ytffjdpkgcgdfdaa
open Go Go.RowKit DiskMath NetMem SpanMath SumMath

/-- A disk beside variables, within a call that began at w0. -/
def StV (w0 W : World) (p : Value) (d : Dk) (vb : List (Nat × Obj)) : Prop :=
  ∃ D, DiskAt W D p d ∧ Below w0.heap.size w0 W ∧ (∀ k, D k → w0.heap.size ≤ k) ∧ ∀ x ∈ vb, W.heap[x.1]? = some x.2 ∧ ¬ D x.1
theorem StV.old {w0 W : World} {p : Value} {d : Dk} {vb : List (Nat × Obj)} (h : StV w0 W p d vb) : Below w0.heap.size w0 W := by
  obtain ⟨D, -, hb, -⟩ := h; exact hb
theorem StV.of_st {w0 W : World} {p : Value} {d : Dk} {rows : List (Value × List UInt8)} (h : St w0 W p d rows) : StV w0 W p d [] := by
  obtain ⟨D, hd, hb, hD, -⟩ := h
  exact ⟨D, hd, hb, hD, fun x hx => by cases hx⟩
theorem StV.st {w0 W : World} {p : Value} {d : Dk} {vb : List (Nat × Obj)} (h : StV w0 W p d vb) : St w0 W p d [] := by
  obtain ⟨D, hd, hb, hD, -⟩ := h
  exact ⟨D, hd, hb, hD, fun x hx => by cases hx⟩
theorem StV.below {w0 W W' : World} {p : Value} {d : Dk} {vb : List (Nat × Obj)} (h : StV w0 W p d vb) (hb' : Below W.heap.size W W') : StV w0 W' p d vb := by
  obtain ⟨D, hd, hb, hD, hv⟩ := h
  refine ⟨D, hd.below hb', hb.trans (hb'.mono hb.size), hD, fun x hx => ⟨?_, (hv x hx).2⟩⟩
  have h1 := (hv x hx).1
  rw [hb'.block x.1 (Array.getElem?_eq_some_iff.1 h1).1]
  exact h1
/-- A variable that is made. -/
theorem StV.var {w0 W : World} {p : Value} {d : Dk} {vb : List (Nat × Obj)} (h : StV w0 W p d vb) (o : Obj) : StV w0 (W.alloc o) p d ((W.heap.size, o) :: vb) := by
  obtain ⟨D, hd, hb, hD, hv⟩ := h
  have hb1 : Below W.heap.size W (W.alloc o) := (Below.refl _ _).alloc (Nat.le_refl _) _
  refine ⟨D, hd.below hb1, hb.trans (hb1.mono hb.size), hD, fun x hx => ?_⟩
  rcases List.mem_cons.1 hx with rfl | hx
  · exact ⟨by simpa using heap_alloc_new W o, fun hd' => by have := hd.lt hd'; simp at this⟩
  · have h1 := (hv x hx).1
    exact ⟨by rw [hb1.block x.1 (Array.getElem?_eq_some_iff.1 h1).1]; exact h1, (hv x hx).2⟩
theorem StV.cell {w0 W : World} {p : Value} {d : Dk} {vb : List (Nat × Obj)} (h : StV w0 W p d vb) {k : Nat} {cs : Array Value} {t : TypeId} {fr : Nat × Nat} (hx : (k, Obj.cells cs t fr) ∈ vb) : W.heap[k]? = some (.cells cs t fr) := by
  obtain ⟨D, -, -, -, hv⟩ := h
  exact (hv _ hx).1
theorem StV.of_step {w0 W W' : World} {D : Nat → Prop} {p : Value} {d' : Dk} {vb : List (Nat × Obj)} (hb : Below w0.heap.size w0 W) (hD : ∀ k, D k → w0.heap.size ≤ k) (hv : ∀ x ∈ vb, W.heap[x.1]? = some x.2 ∧ ¬ D x.1) (h2 : Step D W W' p d') : StV w0 W' p d' vb := by
  obtain ⟨D', hd', hk, hD'⟩ := h2
  refine ⟨D', hd', hb.trans (hk.below hD hb.size), fun k hk' => (hD' k hk').elim (hD k) fun h => Nat.le_trans hb.size h, fun x hx => ?_⟩
  obtain ⟨h1, h2⟩ := hv x hx
  have hlt := (Array.getElem?_eq_some_iff.1 h1).1
  exact ⟨(hk.block x.1 hlt h2).trans h1, fun h => (hD' _ h).elim h2 fun h => by omega⟩

theorem arm_sv {w0 W : World} {p : Value} {d d' : Dk} {vb : List (Nat × Obj)} (h : StV w0 W p d vb) (at_ : Int) {v : Value} {l : List Int} (hk : KeepsAt W v l) (hm : l.length ≤ 4294967296) (he : d.arm at_ l = d') :
    Calls Try.prog 9 #[p, .agg #[.int .i64 at_, v]] W fun e w' => e = .returned (.tuple #[]) ∧ StV w0 w' p d' vb := by
  obtain ⟨D, hd, hb, hD, hv⟩ := h
  subst he
  exact (arm_at hd at_ v l hk hm).mono fun e w' ⟨h1, h2⟩ => ⟨h1, StV.of_step hb hD hv h2⟩
theorem restart_sv {w0 W : World} {p : Value} {d d' : Dk} {vb : List (Nat × Obj)} (h : StV w0 W p d vb) (he : d.restart = d') :
    Calls Try.prog 15 #[p] W fun e w' => e = .returned (.tuple #[]) ∧ StV w0 w' p d' vb := by
  obtain ⟨D, hd, hb, hD, hv⟩ := h
  subst he
  exact (restart_at hd).mono fun e w' ⟨h1, h2⟩ => ⟨h1, StV.of_step hb hD hv h2⟩
theorem save_sv {w0 W : World} {p : Value} {d d' : Dk} {vb : List (Nat × Obj)} (h : StV w0 W p d vb) (gen : Int) {q : Option Addr} {c : Nat} {l : List UInt8} (hr : Row w0 (.slice q l.length c) l) {e0 : Int} (he : slotSave d gen l = (e0, d'))
    (hl : l.length ≤ 2147483648) (hn : d.n + l.length + 8 < 4611686018427387904) (hp : d.p.length + l.length + 8 < 4294967296) :
    Calls Try.prog 11 #[p, .int .i64 gen, .slice q l.length c] W fun e w' => e = .returned (.int .i64 e0) ∧ StV w0 w' p d' vb := by
  obtain ⟨D, hd, hbw, hD, hv⟩ := h
  have := save_at hd gen q c l (rowO_old hbw hD hr) hl hn hp
  rw [he] at this
  exact this.mono fun e w' ⟨h1, h2⟩ => ⟨h1, StV.of_step hbw hD hv h2⟩
theorem load_sv {w0 W : World} {p : Value} {d : Dk} {vb : List (Nat × Obj)} (h : StV w0 W p d vb) {o : Option (Nat × List UInt8)} (he : slotLoad d = o) {z : Int} (hz : (genOf o : Int) = z) {ok : Bool} (hok : o.isSome = ok) {B : List UInt8} (hB : bytesOf o = B) :
    Calls Try.prog 17 #[p] W fun e w' => ∃ a c, e = .returned (.tuple #[.int .i64 z, .slice a B.length c, .bool ok]) ∧ StV w0 w' p d vb ∧ Row w' (.slice a B.length c) B ∧ Below W.heap.size W w' := by
  have hh := h
  obtain ⟨D, hd, hbw, hD, hv⟩ := h
  subst he hz hok hB
  refine (load_at hd).mono fun e w' ⟨v, h1, h2, h3⟩ => ?_
  have ho : NetMem.Own w' W.heap.size v (bytesOf (slotLoad d)) := h2
  obtain ⟨a, c, hv⟩ : ∃ a c, v = .slice a (bytesOf (slotLoad d)).length c := by
    rcases id ho with ⟨rfl, h0⟩ | ⟨g', cap', rfl, -⟩
    · exact ⟨none, 0, by rw [h0]; rfl⟩
    · exact ⟨_, _, rfl⟩
  subst hv
  exact ⟨a, c, h1, hh.below h3, ho.row, h3⟩
end Go.Proofs.Ytffjdpkgcgdfdaa
