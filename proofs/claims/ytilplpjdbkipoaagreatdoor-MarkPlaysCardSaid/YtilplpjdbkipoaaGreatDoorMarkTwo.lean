/-
  Proved: two disks side by side, the program's and the statements' own, and variables beside them: what the calls of chapter 6 do to both. Conditions: as each says.
-/
import Derived.Test.YtilplpjdbkipoaaGreatDoorMarkDoes
import Derived.Test.YtilplpjdbkipoaaGreatDoorMarkTools
namespace Go.Proofs.YtilplpjdbkipoaaGreatDoor
open Go Go.RowKit DiskMath NetMem SpanMath SumMath MarkMath NetMath

/-- Two disks beside variables, within a call that began at w0. -/
def StX (w0 W : World) (p : Value) (d : Dk) (q : Value) (x : Dk) (vb : List (Nat × Obj)) : Prop :=
  ∃ D E, DiskAt W D p d ∧ RefAt w0 W E q x ∧ (∀ k, D k → w0.heap.size ≤ k) ∧ (∀ k, D k → ¬ E k) ∧ ∀ y ∈ vb, W.heap[y.1]? = some y.2 ∧ ¬ D y.1 ∧ ¬ E y.1
section
variable {w0 W : World} {p q : Value} {d x : Dk} {vb : List (Nat × Obj)}
theorem StX.old (h : StX w0 W p d q x vb) : Below w0.heap.size w0 W := by
  obtain ⟨D, E, -, he, -⟩ := h
  exact he.old
theorem StX.below {W' : World} (h : StX w0 W p d q x vb) (hb : Below W.heap.size W W') : StX w0 W' p d q x vb := by
  obtain ⟨D, E, hd, he, hD, hDE, hv⟩ := h
  refine ⟨D, E, hd.below hb, he.below hb, hD, hDE, fun y hy => ⟨?_, (hv y hy).2⟩⟩
  have h1 := (hv y hy).1
  rw [hb.block y.1 (Array.getElem?_eq_some_iff.1 h1).1]
  exact h1
theorem StX.var (h : StX w0 W p d q x vb) (o : Obj) : StX w0 (W.alloc o) p d q x ((W.heap.size, o) :: vb) := by
  obtain ⟨D, E, hd, he, hD, hDE, hv⟩ := h
  have hb1 : Below W.heap.size W (W.alloc o) := (Below.refl _ _).alloc (Nat.le_refl _) _
  refine ⟨D, E, hd.below hb1, he.below hb1, hD, hDE, fun y hy => ?_⟩
  rcases List.mem_cons.1 hy with rfl | hy
  · exact ⟨by simpa using heap_alloc_new W o, fun h => by have := hd.lt h; simp at this, fun h => by have := (he.lt h).2; simp at this⟩
  · have h1 := (hv y hy).1
    exact ⟨by rw [hb1.block y.1 (Array.getElem?_eq_some_iff.1 h1).1]; exact h1, (hv y hy).2⟩
theorem StX.less {vb' : List (Nat × Obj)} (h : StX w0 W p d q x vb) (hs : ∀ y ∈ vb', y ∈ vb) : StX w0 W p d q x vb' := by
  obtain ⟨D, E, hd, he, hD, hDE, hv⟩ := h
  exact ⟨D, E, hd, he, hD, hDE, fun y hy => hv y (hs y hy)⟩
theorem StX.cell (h : StX w0 W p d q x vb) {k : Nat} {cs : Array Value} {t : TypeId} {fr : Nat × Nat} (hx : (k, Obj.cells cs t fr) ∈ vb) : W.heap[k]? = some (.cells cs t fr) := by
  obtain ⟨D, E, -, -, -, -, hv⟩ := h
  exact (hv _ hx).1
theorem StX.of_step {W' : World} {D E : Nat → Prop} {d' : Dk} (hd : DiskAt W D p d) (he : RefAt w0 W E q x) (hD : ∀ k, D k → w0.heap.size ≤ k) (hDE : ∀ k, D k → ¬ E k) (hv : ∀ y ∈ vb, W.heap[y.1]? = some y.2 ∧ ¬ D y.1 ∧ ¬ E y.1) (h2 : Step D W W' p d') : StX w0 W' p d' q x vb := by
  obtain ⟨D', hd', hk, hD'⟩ := h2
  refine ⟨D', E, hd', he.far hk (fun k h1 h2 => hDE k h2 h1) hD, fun k hk' => (hD' k hk').elim (hD k) fun h => Nat.le_trans he.old.size h, fun k h1 h2 => (hD' k h1).elim (fun h => hDE k h h2) fun h => by have := (he.lt h2).2; omega, fun y hy => ?_⟩
  obtain ⟨h1, h2, h3⟩ := hv y hy
  have hlt := (Array.getElem?_eq_some_iff.1 h1).1
  have := hd
  exact ⟨(hk.block y.1 hlt h2).trans h1, fun h => (hD' _ h).elim h2 fun h => by omega, h3⟩
theorem StX.of_rstep {W' : World} {D E : Nat → Prop} {x' : Dk} (hd : DiskAt W D p d) (he : RefAt w0 W E q x) (hD : ∀ k, D k → w0.heap.size ≤ k) (hDE : ∀ k, D k → ¬ E k) (hv : ∀ y ∈ vb, W.heap[y.1]? = some y.2 ∧ ¬ D y.1 ∧ ¬ E y.1) (h2 : RStep w0 E W W' q x') : StX w0 W' p d q x' vb := by
  obtain ⟨E', he', hk, hE'⟩ := h2
  have := he
  refine ⟨D, E', hd.far hk hDE, he', hD, fun k h1 h2 => (hE' k h2).elim (fun h => hDE k h1 h) fun h => by have := hd.lt h1; omega, fun y hy => ?_⟩
  obtain ⟨h1, h2, h3⟩ := hv y hy
  have hlt := (Array.getElem?_eq_some_iff.1 h1).1
  exact ⟨(hk.block y.1 hlt h3).trans h1, h2, fun h => (hE' _ h).elim h3 fun h => by omega⟩

theorem arm_x (h : StX w0 W p d q x vb) (at_ : Int) {v : Value} {l : List Int} (hk : KeepsAt W v l) (hm : l.length ≤ 4294967296) :
    Calls Tryz.prog 7 #[p, .agg #[.int .i64 at_, v]] W fun e w' => e = .returned (.tuple #[]) ∧ StX w0 w' p (d.arm at_ l) q x vb := by
  obtain ⟨D, E, hd, he, hD, hDE, hv⟩ := h
  exact (arm_at hd at_ v l hk hm).mono fun e w' ⟨h1, h2⟩ => ⟨h1, StX.of_step hd he hD hDE hv h2⟩
theorem rarm_x (h : StX w0 W p d q x vb) (at_ : Int) {v : Value} {l : List Int} (hk : KeepsAt w0 v l) :
    Calls Tryz.prog 8 #[q, .agg #[.int .i64 at_, v]] W fun e w' => e = .returned (.tuple #[]) ∧ StX w0 w' p d q (x.arm at_ l) vb := by
  obtain ⟨D, E, hd, he, hD, hDE, hv⟩ := h
  exact (rarm_at he at_ v l hk).mono fun e w' ⟨h1, h2⟩ => ⟨h1, StX.of_rstep hd he hD hDE hv h2⟩
theorem restart_x (h : StX w0 W p d q x vb) :
    Calls Tryz.prog 11 #[p] W fun e w' => e = .returned (.tuple #[]) ∧ StX w0 w' p d.restart q x vb := by
  obtain ⟨D, E, hd, he, hD, hDE, hv⟩ := h
  exact (restart_at hd).mono fun e w' ⟨h1, h2⟩ => ⟨h1, StX.of_step hd he hD hDE hv h2⟩
theorem rrestart_x (h : StX w0 W p d q x vb) :
    Calls Tryz.prog 12 #[q] W fun e w' => e = .returned (.tuple #[]) ∧ StX w0 w' p d q x.restart vb := by
  obtain ⟨D, E, hd, he, hD, hDE, hv⟩ := h
  exact (rrestart_at he).mono fun e w' ⟨h1, h2⟩ => ⟨h1, StX.of_rstep hd he hD hDE hv h2⟩
/-- Both disks are new. -/
theorem rnew_x (n : Nat) (hn : n ≤ 4000) (h : St w0 W p d []) :
    Calls Tryz.prog 5 #[.int .i64 (n : Int)] W fun e w' => ∃ g, e = .returned (.pointer (some ⟨g, 0, none⟩)) ∧ StX w0 w' p d (.pointer (some ⟨g, 0, none⟩)) (Dk.new n) [] := by
  obtain ⟨D, hd, hb, hD, -⟩ := h
  exact (rnew_at w0 n hn W hb).mono fun e w' ⟨g, E, h1, h2, h3, h4⟩ => ⟨g, h1, D, E, hd.below h3, h2, hD, fun k k1 k2 => by have := hd.lt k1; have := h4 k k2; omega, fun y hy => (List.not_mem_nil hy).elim⟩
theorem rfrom_x (h : StX w0 W p d q x vb) {z : Int} (hz : jFrom x = z) :
    Calls Tryz.prog 6 #[q] W fun e w' => e = .returned (.int .i64 z) ∧ W = w' := by
  obtain ⟨D, E, -, he, -⟩ := h
  subst hz
  exact rfrom_at he
theorem append_x {d' : Dk} (h : StX w0 W p d q x vb) (hg : NetP.Glob w0) (at_ : Int) (gen n : Int) (done : Bool) (st : Int) (out : ByteArray) (hs : I64 st) (ho : out.size ≤ 900000)
    {nx e0 : Int} (he : markAppend d at_ ⟨gen, n, done, st, out⟩ = (nx, e0, d')) (hn : d.n = 0) (hp : d.p = []) :
    Calls Tryz.prog 9 #[p, .int .i64 at_, .agg #[.int .i64 gen, .int .i64 n, .bool done, .int .i64 st, .string out]] W fun e w' => e = .returned (.tuple #[.int .i64 nx, .int .i64 e0]) ∧ StX w0 w' p d' q x vb := by
  have hb := h.old
  obtain ⟨D, E, hd, hr, hD, hDE, hv⟩ := h
  have := append_at hd at_ gen n done st out hs ho (hg.below hb) (by rw [hn]; omega) (by rw [hp]; simp)
  rw [he] at this
  exact this.mono fun e w' ⟨h1, h2⟩ => ⟨h1, StX.of_step hd hr hD hDE hv h2⟩
theorem rappend_x {x' : Dk} (h : StX w0 W p d q x vb) (at_ : Int) (gen n : Int) (done : Bool) (st : Int) (out : ByteArray) (hs : I64 st) (ho : out.size ≤ 900000)
    {nx e0 : Int} (he : markAppend x at_ ⟨gen, n, done, st, out⟩ = (nx, e0, x')) (hn : x.n = 0) (hp : x.p = []) :
    Calls Tryz.prog 10 #[q, .int .i64 at_, .agg #[.int .i64 gen, .int .i64 n, .bool done, .int .i64 st, .string out]] W fun e w' => e = .returned (.tuple #[.int .i64 nx, .int .i64 e0]) ∧ StX w0 w' p d q x' vb := by
  obtain ⟨D, E, hd, hr, hD, hDE, hv⟩ := h
  have := rappend_at hr at_ gen n done st out hs ho (by rw [hn]; omega) (by rw [hp]; simp)
  rw [he] at this
  exact this.mono fun e w' ⟨h1, h2⟩ => ⟨h1, StX.of_rstep hd hr hD hDE hv h2⟩
theorem scanFrom_len (d : Dk) (gen : Int) : ∀ f a, (scanFrom d gen f a).1.length ≤ f
  | 0, a => by simp [scanFrom]
  | f + 1, a => by
    simp only [scanFrom]
    split
    · simp
    · rename_i m k _
      have := scanFrom_len d gen f (a + k)
      simp only [List.length_cons]
      omega
theorem markScan_len (d : Dk) (gen : Int) : (markScan d gen).1.length ≤ d.s.length + 1 := by
  unfold markScan
  split
  · exact scanFrom_len d gen _ _
  · simp
theorem scan_x (h : StX w0 W p d q x vb) (hg : NetP.Glob w0) (gen : Int) {l : List Mk} {z : Nat} (he : markScan d gen = (l, z)) {Z : Int} (hz : (z : Int) = Z) :
    Calls Tryz.prog 13 #[p, .int .i64 gen] W fun e w' => ∃ a c, e = .returned (.tuple #[.slice a l.length c, .int .i64 Z]) ∧ MksAt w' a l ∧ l.length ≤ 100000 ∧ StX w0 w' p d q x vb ∧ Below W.heap.size W w' := by
  have hh := h
  obtain ⟨D, E, hd, -⟩ := h
  have hl : d.s.length ≤ 4000 := by obtain ⟨g, s, pv, lv, rfl, hm, -, -⟩ := hd; exact hm.secs.2.2.2.1
  have hlen := markScan_len d gen
  rw [he] at hlen
  have := scan_at hd gen (hg.below hh.old)
  rw [he] at this
  subst hz
  refine this.mono fun e w' ⟨v, h1, h2, h3⟩ => ?_
  obtain ⟨a, c, rfl, hc, -, hm⟩ := h2.at
  exact ⟨a, c, h1, hm, by simp only at hlen; omega, hh.below h3, h3⟩
theorem rscan_x (h : StX w0 W p d q x vb) (gen : Int) {l : List Mk} {z : Nat} (he : markScan x gen = (l, z)) {Z : Int} (hz : (z : Int) = Z) :
    Calls Tryz.prog 14 #[q, .int .i64 gen] W fun e w' => ∃ a c, e = .returned (.tuple #[.slice a l.length c, .int .i64 Z]) ∧ MksAt w' a l ∧ StX w0 w' p d q x vb ∧ Below W.heap.size W w' := by
  have hh := h
  obtain ⟨D, E, -, hr, -⟩ := h
  have := rscan_at hr gen
  rw [he] at this
  subst hz
  refine this.mono fun e w' ⟨v, h1, h2, h3⟩ => ?_
  obtain ⟨a, c, rfl, hc, -, hm⟩ := h2.at
  exact ⟨a, c, h1, hm, hh.below h3, h3⟩
end
end Go.Proofs.YtilplpjdbkipoaaGreatDoor
