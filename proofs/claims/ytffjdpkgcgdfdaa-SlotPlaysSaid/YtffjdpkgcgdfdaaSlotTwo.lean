/-
  Proved: two disks side by side, the program's and the statements' own, and variables beside them: what the calls of chapter 5 do to both. Conditions: as each says.
-/
import Derived.Test.YtffjdpkgcgdfdaaSlotVar
import Derived.Test.YtffjdpkgcgdfdaaRefSlot
namespace Go.Proofs.Ytffjdpkgcgdfdaa
open Go Go.RowKit DiskMath NetMem SpanMath SumMath

/-- Two disks beside variables, within a call that began at w0. -/
def StX (w0 W : World) (p : Value) (d : Dk) (q : Value) (x : Dk) (vb : List (Nat × Obj)) : Prop :=
  ∃ D E, DiskAt W D p d ∧ RefAt w0 W E q x ∧ (∀ k, D k → w0.heap.size ≤ k) ∧ (∀ k, D k → ¬ E k) ∧ ∀ y ∈ vb, W.heap[y.1]? = some y.2 ∧ ¬ D y.1 ∧ ¬ E y.1
section
variable {w0 W : World} {p q : Value} {d x : Dk} {vb : List (Nat × Obj)}
theorem StX.old (h : StX w0 W p d q x vb) : Below w0.heap.size w0 W := by
  obtain ⟨D, E, -, he, -⟩ := h
  exact he.old
theorem StX.below {W' : World} (h : StX w0 W p d q x vb) (hb : Below W.heap.size W W') : StX w0 W' p d q x vb := by
  obtain ⟨D, E, hd, he, hD, hDE, hv⟩ := h
  refine ⟨D, E, hd.below hb, he.below hb, hD, hDE, fun y hy => ⟨?_, (hv y hy).2⟩⟩
  have h1 := (hv y hy).1
  rw [hb.block y.1 (Array.getElem?_eq_some_iff.1 h1).1]
  exact h1
theorem StX.var (h : StX w0 W p d q x vb) (o : Obj) : StX w0 (W.alloc o) p d q x ((W.heap.size, o) :: vb) := by
  obtain ⟨D, E, hd, he, hD, hDE, hv⟩ := h
  have hb1 : Below W.heap.size W (W.alloc o) := (Below.refl _ _).alloc (Nat.le_refl _) _
  refine ⟨D, E, hd.below hb1, he.below hb1, hD, hDE, fun y hy => ?_⟩
  rcases List.mem_cons.1 hy with rfl | hy
  · exact ⟨by simpa using heap_alloc_new W o, fun h => by have := hd.lt h; simp at this, fun h => by have := (he.lt h).2; simp at this⟩
  · have h1 := (hv y hy).1
    exact ⟨by rw [hb1.block y.1 (Array.getElem?_eq_some_iff.1 h1).1]; exact h1, (hv y hy).2⟩
theorem StX.less {vb' : List (Nat × Obj)} (h : StX w0 W p d q x vb) (hs : ∀ y ∈ vb', y ∈ vb) : StX w0 W p d q x vb' := by
  obtain ⟨D, E, hd, he, hD, hDE, hv⟩ := h
  exact ⟨D, E, hd, he, hD, hDE, fun y hy => hv y (hs y hy)⟩
theorem StX.cell (h : StX w0 W p d q x vb) {k : Nat} {cs : Array Value} {t : TypeId} {fr : Nat × Nat} (hx : (k, Obj.cells cs t fr) ∈ vb) : W.heap[k]? = some (.cells cs t fr) := by
  obtain ⟨D, E, -, -, -, -, hv⟩ := h
  exact (hv _ hx).1
theorem StX.of_step {W' : World} {D E : Nat → Prop} {d' : Dk} (hd : DiskAt W D p d) (he : RefAt w0 W E q x) (hD : ∀ k, D k → w0.heap.size ≤ k) (hDE : ∀ k, D k → ¬ E k) (hv : ∀ y ∈ vb, W.heap[y.1]? = some y.2 ∧ ¬ D y.1 ∧ ¬ E y.1) (h2 : Step D W W' p d') : StX w0 W' p d' q x vb := by
  obtain ⟨D', hd', hk, hD'⟩ := h2
  refine ⟨D', E, hd', he.far hk (fun k h1 h2 => hDE k h2 h1) hD, fun k hk' => (hD' k hk').elim (hD k) fun h => Nat.le_trans he.old.size h, fun k h1 h2 => (hD' k h1).elim (fun h => hDE k h h2) fun h => by have := (he.lt h2).2; omega, fun y hy => ?_⟩
  obtain ⟨h1, h2, h3⟩ := hv y hy
  have hlt := (Array.getElem?_eq_some_iff.1 h1).1
  have := hd
  exact ⟨(hk.block y.1 hlt h2).trans h1, fun h => (hD' _ h).elim h2 fun h => by omega, h3⟩
theorem StX.of_rstep {W' : World} {D E : Nat → Prop} {x' : Dk} (hd : DiskAt W D p d) (he : RefAt w0 W E q x) (hD : ∀ k, D k → w0.heap.size ≤ k) (hDE : ∀ k, D k → ¬ E k) (hv : ∀ y ∈ vb, W.heap[y.1]? = some y.2 ∧ ¬ D y.1 ∧ ¬ E y.1) (h2 : RStep w0 E W W' q x') : StX w0 W' p d q x' vb := by
  obtain ⟨E', he', hk, hE'⟩ := h2
  have := he
  refine ⟨D, E', hd.far hk hDE, he', hD, fun k h1 h2 => (hE' k h2).elim (fun h => hDE k h1 h) fun h => by have := hd.lt h1; omega, fun y hy => ?_⟩
  obtain ⟨h1, h2, h3⟩ := hv y hy
  have hlt := (Array.getElem?_eq_some_iff.1 h1).1
  exact ⟨(hk.block y.1 hlt h3).trans h1, h2, fun h => (hE' _ h).elim h3 fun h => by omega⟩

theorem arm_x (h : StX w0 W p d q x vb) (at_ : Int) {v : Value} {l : List Int} (hk : KeepsAt W v l) (hm : l.length ≤ 4294967296) :
    Calls Try.prog 9 #[p, .agg #[.int .i64 at_, v]] W fun e w' => e = .returned (.tuple #[]) ∧ StX w0 w' p (d.arm at_ l) q x vb := by
  obtain ⟨D, E, hd, he, hD, hDE, hv⟩ := h
  exact (arm_at hd at_ v l hk hm).mono fun e w' ⟨h1, h2⟩ => ⟨h1, StX.of_step hd he hD hDE hv h2⟩
theorem rarm_x (h : StX w0 W p d q x vb) (at_ : Int) {v : Value} {l : List Int} (hk : KeepsAt w0 v l) :
    Calls Try.prog 10 #[q, .agg #[.int .i64 at_, v]] W fun e w' => e = .returned (.tuple #[]) ∧ StX w0 w' p d q (x.arm at_ l) vb := by
  obtain ⟨D, E, hd, he, hD, hDE, hv⟩ := h
  exact (rarm_at he at_ v l hk).mono fun e w' ⟨h1, h2⟩ => ⟨h1, StX.of_rstep hd he hD hDE hv h2⟩
theorem restart_x (h : StX w0 W p d q x vb) :
    Calls Try.prog 15 #[p] W fun e w' => e = .returned (.tuple #[]) ∧ StX w0 w' p d.restart q x vb := by
  obtain ⟨D, E, hd, he, hD, hDE, hv⟩ := h
  exact (restart_at hd).mono fun e w' ⟨h1, h2⟩ => ⟨h1, StX.of_step hd he hD hDE hv h2⟩
theorem rrestart_x (h : StX w0 W p d q x vb) :
    Calls Try.prog 16 #[q] W fun e w' => e = .returned (.tuple #[]) ∧ StX w0 w' p d q x.restart vb := by
  obtain ⟨D, E, hd, he, hD, hDE, hv⟩ := h
  exact (rrestart_at he).mono fun e w' ⟨h1, h2⟩ => ⟨h1, StX.of_rstep hd he hD hDE hv h2⟩
theorem row_apart {D : Nat → Prop} {v : Value} {l : List UInt8} (hb : Below w0.heap.size w0 W) (hD : ∀ k, D k → w0.heap.size ≤ k) (hr : Row w0 v l) : RowO W D v l := rowO_old hb hD hr
theorem save_x (h : StX w0 W p d q x vb) (gen : Int) {a : Option Addr} {c : Nat} {l : List UInt8} (hr : Row w0 (.slice a l.length c) l) {e0 : Int} {d' : Dk} (hs : slotSave d gen l = (e0, d'))
    (hl : l.length ≤ 2147483648) (hn : d.n + l.length + 8 < 4611686018427387904) (hp : d.p.length + l.length + 8 < 4294967296) :
    Calls Try.prog 11 #[p, .int .i64 gen, .slice a l.length c] W fun e w' => e = .returned (.int .i64 e0) ∧ StX w0 w' p d' q x vb := by
  obtain ⟨D, E, hd, he, hD, hDE, hv⟩ := h
  have := save_at hd gen a c l (rowO_old he.old hD hr) hl hn hp
  rw [hs] at this
  exact this.mono fun e w' ⟨h1, h2⟩ => ⟨h1, StX.of_step hd he hD hDE hv h2⟩
theorem rsave_x (h : StX w0 W p d q x vb) (gen : Int) {a : Option Addr} {c : Nat} {l : List UInt8} (hr : Row w0 (.slice a l.length c) l) {e0 : Int} {x' : Dk} (hs : slotSave x gen l = (e0, x'))
    (hl : l.length ≤ 2147483648) (hn : x.n + l.length + 8 < 4611686018427387904) (hp : x.p.length + l.length + 8 < 4294967296) :
    Calls Try.prog 12 #[q, .int .i64 gen, .slice a l.length c] W fun e w' => e = .returned (.int .i64 e0) ∧ StX w0 w' p d q x' vb := by
  obtain ⟨D, E, hd, he, hD, hDE, hv⟩ := h
  have := rsave_at he gen a c l (rowO_old he.old (fun k hk => (he.lt hk).1) hr) hl hn hp
  rw [hs] at this
  exact this.mono fun e w' ⟨h1, h2⟩ => ⟨h1, StX.of_rstep hd he hD hDE hv h2⟩
theorem room_x (h : StX w0 W p d q x vb) {z : Int} (hz : ((room d : Nat) : Int) = z) :
    Calls Try.prog 13 #[p] W fun e w' => e = .returned (.int .i64 z) ∧ W = w' := by
  obtain ⟨D, E, hd, -⟩ := h
  subst hz
  exact room_at hd
theorem rroom_x (h : StX w0 W p d q x vb) {z : Int} (hz : ((room x : Nat) : Int) = z) :
    Calls Try.prog 14 #[q] W fun e w' => e = .returned (.int .i64 z) ∧ W = w' := by
  obtain ⟨D, E, -, he, -⟩ := h
  subst hz
  exact rroom_at he
theorem load_said {o : Option (Nat × List UInt8)} {z : Int} (hz : (genOf o : Int) = z) {ok : Bool} (hok : o.isSome = ok) {B : List UInt8} (hB : bytesOf o = B) {e : Ending} {w' : World} (h : LoadSaid o W e w') :
    ∃ a c, e = .returned (.tuple #[.int .i64 z, .slice a B.length c, .bool ok]) ∧ Row w' (.slice a B.length c) B ∧ Below W.heap.size W w' := by
  subst hz hok hB
  obtain ⟨v, h1, h2, h3⟩ := h
  have ho : NetMem.Own w' W.heap.size v (bytesOf o) := h2
  obtain ⟨a, c, hv⟩ : ∃ a c, v = .slice a (bytesOf o).length c := by
    rcases id ho with ⟨rfl, h0⟩ | ⟨g', cap', rfl, -⟩
    · exact ⟨none, 0, by rw [h0]; rfl⟩
    · exact ⟨_, _, rfl⟩
  subst hv
  exact ⟨a, c, h1, ho.row, h3⟩
theorem load_x (h : StX w0 W p d q x vb) {o : Option (Nat × List UInt8)} (he : slotLoad d = o) {z : Int} (hz : (genOf o : Int) = z) {ok : Bool} (hok : o.isSome = ok) {B : List UInt8} (hB : bytesOf o = B) :
    Calls Try.prog 17 #[p] W fun e w' => ∃ a c, e = .returned (.tuple #[.int .i64 z, .slice a B.length c, .bool ok]) ∧ Row w' (.slice a B.length c) B ∧ Below W.heap.size W w' := by
  obtain ⟨D, E, hd, -⟩ := h
  have := load_at hd
  rw [he] at this
  exact this.mono fun e w' h => load_said hz hok hB h
theorem rload_x (h : StX w0 W p d q x vb) {o : Option (Nat × List UInt8)} (he : slotLoad x = o) {z : Int} (hz : (genOf o : Int) = z) {ok : Bool} (hok : o.isSome = ok) {B : List UInt8} (hB : bytesOf o = B) :
    Calls Try.prog 18 #[q] W fun e w' => ∃ a c, e = .returned (.tuple #[.int .i64 z, .slice a B.length c, .bool ok]) ∧ Row w' (.slice a B.length c) B ∧ Below W.heap.size W w' := by
  obtain ⟨D, E, -, hr, -⟩ := h
  have := rload_at hr
  rw [he] at this
  exact this.mono fun e w' h => load_said hz hok hB h
/-- Both disks are new. -/
theorem rnew_x (n : Nat) (hn : n ≤ 4000) (h : St w0 W p d []) :
    Calls Try.prog 8 #[.int .i64 (n : Int)] W fun e w' => ∃ g, e = .returned (.pointer (some ⟨g, 0, none⟩)) ∧ StX w0 w' p d (.pointer (some ⟨g, 0, none⟩)) (Dk.new n) [] := by
  obtain ⟨D, hd, hb, hD, -⟩ := h
  exact (rnew_at w0 n hn W hb).mono fun e w' ⟨g, E, h1, h2, h3, h4⟩ => ⟨g, h1, D, E, hd.below h3, h2, hD, fun k k1 k2 => by have := hd.lt k1; have := h4 k k2; omega, fun y hy => (List.not_mem_nil hy).elim⟩
end
end Go.Proofs.Ytffjdpkgcgdfdaa
