/-
  Proved: the law MarkRow answers true. Conditions: the library's table and its two sentinel errors read as laid.
-/
import Derived.Test.YtilplpjdbkipoaaDoorMGens
namespace Go.Proofs.YtilplpjdbkipoaaDoor.MarkMath
open Go NetMath DiskMath SumMath SpanMath

/-- The journal where the last mark is to be appended. -/
structure RowS (d : Dk) (g : Int) (ms : List Mk) (z k : Nat) : Prop where
  jour : JourS d g ms z k
  wf : Wf d
  p : d.p = []
  zero : la d z = zeroB
  pos : 300 ≤ z ∧ z ≤ 300 + 7 * k
theorem rowS_new (g : Int) : RowS (Dk.new 400) g [] 300 0 := ⟨jourS_new g, wf_new 400, rfl, new_la 400 300 (by omega), by omega⟩
theorem RowS.append {d : Dk} {g : Int} {ms : List Mk} {z k : Nat} (h : RowS d g ms z k) (hk : k < 9) (g0 : 0 ≤ g) (g1 : g ≤ 1000) (y : AnsV) (hy : I64 y.st) (ho : y.out.size ≤ 60) :
    ∃ (z' : Nat) (d' : Dk), markAppend d z (genM g k y) = ((z' : Int), 0, d') ∧ RowS d' g (ms ++ [genM g k y]) z' (k + 1) := by
  obtain ⟨r1, r2, r3, r4⟩ := genM_raw g k (by omega) y hy ho
  have hpos := h.pos
  have hlen := h.jour.len
  have hroom := jour_room hlen
  have hne : need (genM g k y).raw.length = 1 + cnt (genM g k y).raw.length := rfl
  have his := genM_is g g0 g1 k (by omega) y
  have hap := h.jour.laid.append (genM g k y) his hy (by show y.out.size ≤ _; omega) rfl (by omega)
  have hops := appended_n d z (genM g k y)
  refine ⟨z + need (genM g k y).raw.length, appended d z (genM g k y), append_well d z _ h.jour.down h.jour.armed his (by omega) (by omega), ?_, wf_appended h.wf z _ h.jour.down h.jour.armed (by omega), rfl, ?_, by omega⟩
  · exact ⟨hap.1, .inr hap.2, by rw [appended_down]; exact h.jour.down, by rw [appended_armed]; exact h.jour.armed, by rw [appended_len]; exact hlen, by have := h.jour.pos; omega, by have := h.jour.ops; omega, by rw [appended_p]; exact Nat.zero_le _⟩
  · rcases hap.2 with e | e
    · rw [appended_len] at e; omega
    · exact e
theorem RowS.restart {d : Dk} {g : Int} {ms : List Mk} {z k : Nat} (h : RowS d g ms z k) : RowS d.restart g ms z k := by
  have hr : ∀ i, la d.restart i = la d i := restart_la' d h.p
  have hl : d.restart.s.length = d.s.length := restart_len d
  refine ⟨⟨h.jour.laid.keep hl fun i _ _ => hr i, h.jour.stop.imp id fun e => e.imp (fun x => by rw [hl]; exact x) fun x => (hr _).trans x, rfl, rfl, by rw [hl]; exact h.jour.len, h.jour.pos, Nat.zero_le _, Nat.zero_le _⟩, wf_restart h.wf, rfl, (hr z).trans h.zero, h.pos⟩
/-- What is found behind the last one. -/
def FinS (g : Int) (ms : List Mk) (m : Mk) (d : Dk) : Prop :=
  ((∃ z, markScan d.restart g = (ms ++ [m], z)) ∨ d.down = true ∧ ∃ z, markScan d.restart g = (ms, z)) ∧ markScan d.restart (g + 1) = ([], 300)
theorem RowS.last {d : Dk} {g : Int} {ms : List Mk} {z k : Nat} (h : RowS d g ms z k) (hk : k < 10) (g0 : 0 ≤ g) (g1 : g ≤ 1000) (y : AnsV) (hy : I64 y.st) (ho : y.out.size ≤ 60) (at_ : Int) (l : List Int) :
    ∃ (nx e : Int) (d' : Dk), markAppend (d.restart.arm at_ l) z (genM g k y) = (nx, e, d') ∧ FinS g ms (genM g k y) d' := by
  have h' := h.restart
  obtain ⟨r1, r2, r3, r4⟩ := genM_raw g k (by omega) y hy ho
  have hpos := h.pos
  have hlen := h'.jour.len
  have hroom := jour_room hlen
  have hne : need (genM g k y).raw.length = 1 + cnt (genM g k y).raw.length := rfl
  obtain ⟨nx, e, d1, x1, -, x2, x3⟩ := append_crash (gen := g) (ms := ms) (z := z) (d0 := d.restart) (by rw [hroom]; exact h'.jour.laid) h'.zero (genM g k y) (genM_is g g0 g1 k (by omega) y) hy (by show y.out.size ≤ _; omega) rfl (by omega) h'.wf h'.p h'.jour.down ⟨at_, l, rfl⟩
  refine ⟨nx, e, d1, x1, x2.imp (fun x => ⟨_, x⟩) (fun x => ⟨x.1, _, x.2⟩), ?_⟩
  rw [x3 (g + 1) (by omega), hroom]
end Go.Proofs.YtilplpjdbkipoaaDoor.MarkMath
namespace Go.Proofs.YtilplpjdbkipoaaDoor
open Go Go.RowKit NetMath NetMem MarkMath SpanMath DiskMath

/-- A disk beside a row of marks and a variable. -/
def StN (w0 W : World) (p : Value) (d : Dk) (v : Value) (l : List Mk) (vb : List (Nat × Obj)) : Prop :=
  ∃ D, DiskAt W D p d ∧ Below w0.heap.size w0 W ∧ (∀ k, D k → w0.heap.size ≤ k) ∧ OwnM W w0.heap.size v l ∧ (∀ k, v.ownBlock = some k → ¬ D k) ∧ ∀ x ∈ vb, W.heap[x.1]? = some x.2 ∧ ¬ D x.1 ∧ v.ownBlock ≠ some x.1
section
variable {w0 W : World} {p : Value} {d : Dk} {v : Value} {l : List Mk} {vb : List (Nat × Obj)}
theorem StN.old (h : StN w0 W p d v l vb) : Below w0.heap.size w0 W := by
  obtain ⟨D, -, hb, -⟩ := h; exact hb
theorem StN.of_st (h : St w0 W p d []) : StN w0 W p d (.slice none 0 0) [] [] := by
  obtain ⟨D, hd, hb, hD, -⟩ := h
  exact ⟨D, hd, hb, hD, OwnM.nil _ _, fun k hk => by simp [Value.ownBlock] at hk, fun x hx => by cases hx⟩
theorem StN.less (h : StN w0 W p d v l vb) : StN w0 W p d v l [] := by
  obtain ⟨D, hd, hb, hD, ho, hn, -⟩ := h
  exact ⟨D, hd, hb, hD, ho, hn, fun x hx => by cases hx⟩
theorem StN.st (h : StN w0 W p d v l vb) : St w0 W p d [] := by
  obtain ⟨D, hd, hb, hD, -⟩ := h
  exact ⟨D, hd, hb, hD, fun r hr => by cases hr⟩
theorem StN.row (h : StN w0 W p d v l vb) : OwnM W w0.heap.size v l := by
  obtain ⟨D, -, -, -, ho, -⟩ := h; exact ho
theorem StN.cell (h : StN w0 W p d v l vb) {k : Nat} {o : Obj} (hx : (k, o) ∈ vb) : W.heap[k]? = some o := by
  obtain ⟨D, -, -, -, -, -, hv⟩ := h
  exact (hv _ hx).1
theorem StN.below {W' : World} (h : StN w0 W p d v l vb) (hb' : Below W.heap.size W W') : StN w0 W' p d v l vb := by
  obtain ⟨D, hd, hb, hD, ho, hn, hv⟩ := h
  exact ⟨D, hd.below hb', hb.trans (hb'.mono hb.size), hD, ho.below hb', hn, fun x hx => ⟨(hb'.block x.1 (Array.getElem?_eq_some_iff.1 (hv x hx).1).1).trans (hv x hx).1, (hv x hx).2⟩⟩
theorem StN.var (h : StN w0 W p d v l vb) (o : Obj) : StN w0 (W.alloc o) p d v l ((W.heap.size, o) :: vb) := by
  obtain ⟨D1, hd1, hb1, hD1, ho1, hn1, hv1⟩ := h
  have hb2 : Below W.heap.size W (W.alloc o) := (Below.refl _ _).alloc (Nat.le_refl _) o
  refine ⟨D1, hd1.below hb2, hb1.trans (hb2.mono hb1.size), hD1, ho1.below hb2, hn1, fun x hx => ?_⟩
  rcases List.mem_cons.1 hx with rfl | hx
  · exact ⟨heap_alloc_new W o, fun h => by have := hd1.lt h; simp at this, fun h => by have := (ho1.lt _ h).2; simp at this⟩
  · exact ⟨(hb2.block x.1 (Array.getElem?_eq_some_iff.1 (hv1 x hx).1).1).trans (hv1 x hx).1, (hv1 x hx).2⟩
theorem StN.of_step {W' : World} {D : Nat → Prop} {d' : Dk} (hb : Below w0.heap.size w0 W) (hD : ∀ k, D k → w0.heap.size ≤ k) (ho : OwnM W w0.heap.size v l) (hn : ∀ k, v.ownBlock = some k → ¬ D k) (hv : ∀ x ∈ vb, W.heap[x.1]? = some x.2 ∧ ¬ D x.1 ∧ v.ownBlock ≠ some x.1) (h2 : Step D W W' p d') : StN w0 W' p d' v l vb := by
  obtain ⟨D', hd', hk, hD'⟩ := h2
  refine ⟨D', hd', hb.trans (hk.below hD hb.size), fun k hk' => (hD' k hk').elim (hD k) fun h => Nat.le_trans hb.size h, ownsRow_block ho fun k hk' => hk.block k (ho.lt k hk').2 (hn k hk'), fun k hk' h => (hD' k h).elim (hn k hk') fun h => by have := (ho.lt k hk').2; omega, fun x hx => ?_⟩
  obtain ⟨h1, h2, h3⟩ := hv x hx
  have hlt := (Array.getElem?_eq_some_iff.1 h1).1
  exact ⟨(hk.block x.1 hlt h2).trans h1, fun h => (hD' _ h).elim h2 fun h => by omega, h3⟩
/-- The row grows. -/
theorem StN.grown {W' : World} {v' : Value} {l' : List Mk} {g : Nat} (h : StN w0 W p d v l vb) (ho : OwnM W' w0.heap.size v' l') (hg : W.grownBy W' v.ownBlock) (hv : v'.ownBlock = some g) (hat : v.ownBlock = some g ∨ W.heap.size ≤ g) : StN w0 W' p d v' l' [] := by
  obtain ⟨D, hd, hb, hD, ho0, hn, -⟩ := h
  refine ⟨D, ?_, hb.grown hg hb.size fun k hk => (ho0.lt k hk).1, hD, ho, fun k hk hd' => ?_, fun x hx => by cases hx⟩
  · exact hd.far (E := fun k => v.ownBlock = some k) ⟨hg.os, hg.tape, hg.output, hg.size, fun k h1 h2 => hg.block k h1 fun e => h2 e.symm⟩ fun k h1 h2 => hn k h2 h1
  · rw [hv] at hk
    cases hk
    rcases hat with hat | hat
    · exact hn _ hat hd'
    · have := hd.lt hd'; omega
theorem append_sn {d' : Dk} (h : StN w0 W p d v l vb) (hg : NetP.Glob w0) (at_ : Int) (gen n : Int) (done : Bool) (st : Int) (out : ByteArray) (hs : I64 st) (ho : out.size ≤ 900000)
    {nx e0 : Int} (he : markAppend d at_ ⟨gen, n, done, st, out⟩ = (nx, e0, d')) (hn : d.n + 2000000 < 4611686018427387904) (hp : d.p.length + 2000000 < 4294967296) :
    Calls Tryd.prog 17 #[p, .int .i64 at_, .agg #[.int .i64 gen, .int .i64 n, .bool done, .int .i64 st, .string out]] W fun e w' => e = .returned (.tuple #[.int .i64 nx, .int .i64 e0]) ∧ StN w0 w' p d' v l vb := by
  obtain ⟨D, hd, hbw, hD, ho', hn', hv⟩ := h
  have := append_at hd at_ gen n done st out hs ho (hg.below hbw) hn hp
  rw [he] at this
  exact this.mono fun e w' ⟨h1, h2⟩ => ⟨h1, StN.of_step hbw hD ho' hn' hv h2⟩
theorem arm_sn {d' : Dk} (h : StN w0 W p d v l vb) (at_ : Int) {a : Value} {k : List Int} (hk : KeepsAt W a k) (hm : k.length ≤ 4294967296) (he : d.arm at_ k = d') :
    Calls Tryd.prog 16 #[p, .agg #[.int .i64 at_, a]] W fun e w' => e = .returned (.tuple #[]) ∧ StN w0 w' p d' v l vb := by
  obtain ⟨D, hd, hb, hD, ho, hn, hv⟩ := h
  subst he
  exact (arm_at hd at_ a k hk hm).mono fun e w' ⟨h1, h2⟩ => ⟨h1, StN.of_step hb hD ho hn hv h2⟩
theorem restart_sn {d' : Dk} (h : StN w0 W p d v l vb) (he : d.restart = d') :
    Calls Tryd.prog 15 #[p] W fun e w' => e = .returned (.tuple #[]) ∧ StN w0 w' p d' v l vb := by
  obtain ⟨D, hd, hb, hD, ho, hn, hv⟩ := h
  subst he
  exact (restart_at hd).mono fun e w' ⟨h1, h2⟩ => ⟨h1, StN.of_step hb hD ho hn hv h2⟩
end

def RelRo (gen : Int) (l : List AnsV) (w1 : World) (g : Nat) (a v i : Value) (wr : World) : Prop :=
  ∃ (d : Dk) (k : Nat) (A : Int), k ≤ l.length ∧ i = .int .i64 (k : Int) ∧ a = .int .i64 A ∧ StN w1 wr (.pointer (some ⟨g, 0, none⟩)) d v (genL gen 0 (l.take k)) [] ∧
    (k < l.length ∧ (∃ z : Nat, A = (z : Int) ∧ RowS d gen (genL gen 0 (l.take k)) z k) ∨ k = l.length ∧ ∃ ms m, genL gen 0 l = ms ++ [m] ∧ ms.length + 1 = l.length ∧ FinS gen ms m d)

set_option maxHeartbeats 8000000 in
set_option maxRecDepth 100000 in
theorem mrow_in (gen : Int) (g0 : 0 ≤ gen) (g1 : gen ≤ 1000) (pl : Option Addr) (cl : Nat) (l : List AnsV) (h1 : 1 ≤ l.length) (h10 : l.length ≤ 10) (at_ : Int) (ha : 0 ≤ at_) (q : Option Addr) (c : Nat) (left : List Int) (h50 : left.length ≤ 50) (w : World) (hl : AnsAt w pl l) (hk : KeepsAt w (.slice q left.length c) left) (hg : NetP.Glob w) :
    Calls Tryd.prog 5 #[.int .i64 gen, .slice pl l.length cl, .agg #[.int .i64 at_, .slice q left.length c]] w fun e w' => e = .returned (.bool true) ∧ Below w.heap.size w w' := by
  obtain ⟨i0, hi0, hz0, hz1, hz2⟩ := info_parts info_mark
  have HZ := Lib.hid (And.intro hi0 (And.intro hz0 (And.intro hz1 hz2)))
  obtain ⟨w1, hw1⟩ : ∃ w1, w1 = w.alloc (.cells #[.int .i64 at_, .slice q left.length c] 36) := ⟨_, rfl⟩
  have hb1 : Below w.heap.size w w1 := by rw [hw1]; exact (Below.refl _ _).alloc (Nat.le_refl _) _
  have hbox : w1.heap[w.heap.size]? = some (.cells #[.int .i64 at_, .slice q left.length c] 36) := by rw [hw1]; exact heap_alloc_new w _
  have HH := Lib.hid (And.intro (hl.below hb1) (And.intro (hk.below hb1) (And.intro (hg.below hb1) (And.intro h1 (And.intro h10 (And.intro h50 (And.intro hb1 hbox)))))))
  have x1 : (1 : Int) ≤ (l.length : Int) := by omega
  have x2 : (l.length : Int) ≤ 10 := by omega
  have x3 : (left.length : Int) ≤ 50 := by omega
  have HG := Lib.hid (And.intro g0 g1)
  have HNW := Lib.hid (new_st 400 (by omega) 400 rfl w1)
  have hc1 : w1.cell? ⟨w.heap.size, 1, none⟩ = some (.slice q left.length c) := by simp [World.cell?, hbox]
  have hc0 : w1.cell? ⟨w.heap.size, 0, none⟩ = some (.int .i64 at_) := by simp [World.cell?, hbox]
  rw [hw1] at HNW hc0 hc1
  have HW1 := Lib.hid hw1
  clear h1 h10 h50 hl hk hg hb1 hbox hi0 hz0 hz1 hz2 hw1
  go_enter Tryd.func5, Tryd.ntmps5
  go_wp2_with fail
  refine HNW.out.mono ?_
  rw [← HW1.out]
  rintro e w2 ⟨g, rfl, h2⟩
  have H2 := Lib.hid (StN.of_st h2)
  clear h2 hc0 hc1
  go_wp2_with fail
  go_loopw [8, 9, 10] (fun a v i wr => RelRo gen l w1 g a v i wr) (fun _ _ i _ => l.length - (intOf i).toNat)
  case atStart => exact ⟨Dk.new 400, 0, 300, by omega, rfl, rfl, H2.out, .inl ⟨HH.out.2.2.2.1, 300, rfl, rowS_new gen⟩⟩
  case round =>
    obtain ⟨d, k, A, hk, rfl, rfl, hst, hor⟩ := hrel
    by_cases hlt : k < l.length
    · obtain ⟨z, rfl, hR⟩ : ∃ z : Nat, A = (z : Int) ∧ RowS d gen (genL gen 0 (l.take k)) z k := hor.elim (fun h => h.2) fun h => by omega
      obtain ⟨bb, o, rfl, c0, c1, hi, hm⟩ := (HH.out.1.below hst.old) k hlt
      obtain ⟨y, hy⟩ : ∃ y, y = l[k] := ⟨_, rfl⟩
      have htk := take_snoc l k hlt
      rw [← hy] at c0 c1 hi htk
      obtain ⟨st, out⟩ := y
      simp only at c0 c1 hi
      have k0 : (k : Int) < (l.length : Int) := by omega
      have hgl : genL gen 0 (l.take (k + 1)) = genL gen 0 (l.take k) ++ [genM gen k ⟨st, out⟩] := by
        rw [htk, genL_snoc, List.length_take, Nat.min_eq_left (by omega), Nat.zero_add]
      have HK := Lib.hid (And.intro hst (And.intro hR (And.intro hi (And.intro hgl (And.intro hlt htk)))))
      by_cases hlong : (60 : Int) < (out.size : Int)
      · clear hst hR hi hm hy htk hk hlt hgl hor
        go_wp2_with fail
        go_ret
        exact ⟨rfl, HH.out.2.2.2.2.2.2.1.trans (HK.out.1.old.mono HH.out.2.2.2.2.2.2.1.size)⟩
      · have hs60 : (out.size : Int) ≤ 60 := by omega
        have HLN := Lib.hid (show (genL gen 0 (l.take k)).length = k from by rw [genL_len, List.length_take]; omega)
        have HD := Lib.hid (show d.n + 2000000 < 4611686018427387904 ∧ d.p.length + 2000000 < 4294967296 from by
          have h10 := HH.out.2.2.2.2.1
          have := hR.jour.ops
          have := hR.jour.pend
          omega)
        have HV := Lib.hid (hst.var (.cells #[.int .i64 gen, .int .i64 (k : Int), .bool true, .int .i64 st, .string out] 25))
        by_cases hlast : k + 1 < l.length
        · obtain ⟨z', d', happ, hR'⟩ := hR.append (by have := HH.out.2.2.2.2.1; omega) HG.out.1 HG.out.2 ⟨st, out⟩ hi (by simp only; omega)
          have HA := Lib.hid happ
          have HN := Lib.hid (show RowS d' gen (genL gen 0 (l.take (k + 1))) z' (k + 1) from by rw [hgl]; exact hR')
          have kl : (k : Int) < (l.length : Int) - 1 := by omega
          have HLA := Lib.hid hlast
          clear hst hR hi hm hy htk hk hlt hgl hor happ hR' hlast hlong
          go_wp2_with fail
          refine (append_sn HV.out HH.out.2.2.1 (z : Int) gen (k : Int) true st out HK.out.2.2.1 (by omega) HA.out HD.out.1 HD.out.2).mono ?_
          rintro e w3 ⟨rfl, h3⟩
          have H3 := Lib.hid h3
          clear h3 c0 c1
          obtain ⟨c0, c1, c2, c3, c4⟩ := five_cells (H3.out.cell List.mem_cons_self)
          have ha3 : Below w3.heap.size w3 (w3.alloc (.cells #[.int .i64 gen, .int .i64 (k : Int), .bool true, .int .i64 st, .string out] 25)) := (Below.refl _ _).alloc (Nat.le_refl _) _
          have h3a := H3.out.below ha3
          have hown2 := h3a.row
          unfold OwnM at hown2
          rw [HLN.out] at hown2
          have hlen5 : (mcells (genL gen 0 (l.take k))).length = k * 5 := by rw [mcells_len, HLN.out]
          have hsz3 : w1.heap.size ≤ w3.heap.size + 1 := by have := h3a.old.size; simp at this; exact this
          have hnews := World.news_of_block (w := w3.alloc (.cells #[.int .i64 gen, .int .i64 (k : Int), .bool true, .int .i64 st, .string out] 25)) (B := w3.heap.size) (cs := #[.int .i64 gen, .int .i64 (k : Int), .bool true, .int .i64 st, .string out]) (t := 25) (fr := (0, 0)) (heap_alloc_new w3 _)
          have H3A := Lib.hid h3a
          clear ha3 h3a hlen5
          go_wp2_with (at_builtin; refine wpList_append_lies _ rfl _ _ 39 rfl w1.heap.size 25 i0 (.agg #[.int .i64 0, .int .i64 0, .bool false, .int .i64 0, .string ⟨#[]⟩]) 5 48 Tryd.underlying39 HZ.out.1 HZ.out.2.1 HZ.out.2.2.1 HZ.out.2.2.2 rfl (by decide) u9 k (mcells (genL gen 0 (l.take k))) rfl hown2 ⟨w3.heap.size, 0, none⟩ 1 1 (Mk.cells ⟨gen, (k : Int), true, st, out⟩) rfl rfl hnews (mark_one _) (by decide) ?h63 ?hby ?hbase (w3.heap.size + 1) (by simp) ?_)
          case h63 => have := HK.out.2.2.2.2.1; have := HH.out.2.2.2.2.1; unfold maxLen; omega
          case hby => have := HK.out.2.2.2.2.1; have := HH.out.2.2.2.2.1; omega
          try case hbase => simpa using hsz3
          intro g2 cap w5 ho5 hg5 hat5 hlt5
          have H5 := Lib.hid (show StN w1 w5 (.pointer (some ⟨g, 0, none⟩)) d' (.slice (some ⟨g2, 0, none⟩) (k + 1) cap) (genL gen 0 (l.take (k + 1))) [] from
            H3A.out.grown (g := g2) (by
              unfold OwnM
              rw [HK.out.2.2.2.1, mcells_snoc, List.length_append, HLN.out]
              exact ho5) hg5 rfl (hat5.imp id fun e => by rw [e]; simp))
          clear ho5 hg5 hat5 hlt5 hown2 hsz3 hnews c0 c1 c2 c3 c4
          go_wp2_with fail
          exact ⟨⟨d', k + 1, (z' : Int), by have := HLA.out; omega, by go_num, rfl, H5.out, .inl ⟨HLA.out, z', rfl, HN.out⟩⟩, by have := HLA.out; simp [intOf]; omega⟩
        · have hkl : k + 1 = l.length := by omega
          obtain ⟨nx, e1, d', happ, hF⟩ := hR.last (by have := HH.out.2.2.2.2.1; omega) HG.out.1 HG.out.2 ⟨st, out⟩ hi (by simp only; omega) at_ left
          have HA := Lib.hid happ
          have HN := Lib.hid (show ∃ ms m, genL gen 0 l = ms ++ [m] ∧ ms.length + 1 = l.length ∧ FinS gen ms m d' from ⟨_, _, by rw [← hgl, hkl, List.take_length], by rw [HLN.out]; exact hkl, hF⟩)
          have kl : (k : Int) = (l.length : Int) - 1 := by omega
          have HKL := Lib.hid hkl
          have hbk : ((k : Int) == (l.length : Int) - 1) = true := by simp [kl]
          have kl2 : ¬ (k : Int) < (l.length : Int) - 1 := by omega
          have kl3 : (l.length : Int) - 1 ≤ (k : Int) := by omega
          clear hst hR hi hm hy htk hk hlt hgl hor happ hF hlast hlong hkl kl kl2
          go_wp2_with fail
          refine (restart_sn HV.out rfl).mono ?_
          rintro e w4 ⟨rfl, h4⟩
          have hb4 := (h4.old.block w.heap.size (Array.getElem?_eq_some_iff.1 HH.out.2.2.2.2.2.2.2).1).trans HH.out.2.2.2.2.2.2.2
          have b0 : w4.cell? ⟨w.heap.size, 0, none⟩ = some (.int .i64 at_) := by simp [World.cell?, hb4]
          have b1 : w4.cell? ⟨w.heap.size, 1, none⟩ = some (.slice q left.length c) := by simp [World.cell?, hb4]
          have H4 := Lib.hid h4
          clear h4 hb4 c0 c1
          go_wp2_with fail
          refine (arm_sn H4.out at_ (HH.out.2.1.below H4.out.old) (by have := HH.out.2.2.2.2.2.1; omega) rfl).mono ?_
          rintro e w6 ⟨rfl, h6⟩
          obtain ⟨m0, m1, m2, m3, m4⟩ := five_cells (h6.cell List.mem_cons_self)
          have H6 := Lib.hid h6
          clear h6 b0 b1
          go_wp2_with fail
          refine (append_sn H6.out HH.out.2.2.1 (z : Int) gen (k : Int) true st out HK.out.2.2.1 (by omega) HA.out (by show 0 + 2000000 < _; omega) (by show 0 + 2000000 < _; omega)).mono ?_
          rintro e w3 ⟨rfl, h3⟩
          have H3 := Lib.hid h3
          clear h3 m0 m1 m2 m3 m4
          obtain ⟨c0, c1, c2, c3, c4⟩ := five_cells (H3.out.cell List.mem_cons_self)
          have ha3 : Below w3.heap.size w3 (w3.alloc (.cells #[.int .i64 gen, .int .i64 (k : Int), .bool true, .int .i64 st, .string out] 25)) := (Below.refl _ _).alloc (Nat.le_refl _) _
          have h3a := H3.out.below ha3
          have hown2 := h3a.row
          unfold OwnM at hown2
          rw [HLN.out] at hown2
          have hlen5 : (mcells (genL gen 0 (l.take k))).length = k * 5 := by rw [mcells_len, HLN.out]
          have hsz3 : w1.heap.size ≤ w3.heap.size + 1 := by have := h3a.old.size; simp at this; exact this
          have hnews := World.news_of_block (w := w3.alloc (.cells #[.int .i64 gen, .int .i64 (k : Int), .bool true, .int .i64 st, .string out] 25)) (B := w3.heap.size) (cs := #[.int .i64 gen, .int .i64 (k : Int), .bool true, .int .i64 st, .string out]) (t := 25) (fr := (0, 0)) (heap_alloc_new w3 _)
          have H3A := Lib.hid h3a
          clear ha3 h3a hlen5
          go_wp2_with (at_builtin; refine wpList_append_lies _ rfl _ _ 39 rfl w1.heap.size 25 i0 (.agg #[.int .i64 0, .int .i64 0, .bool false, .int .i64 0, .string ⟨#[]⟩]) 5 48 Tryd.underlying39 HZ.out.1 HZ.out.2.1 HZ.out.2.2.1 HZ.out.2.2.2 rfl (by decide) u9 k (mcells (genL gen 0 (l.take k))) rfl hown2 ⟨w3.heap.size, 0, none⟩ 1 1 (Mk.cells ⟨gen, (k : Int), true, st, out⟩) rfl rfl hnews (mark_one _) (by decide) ?h63 ?hby ?hbase (w3.heap.size + 1) (by simp) ?_)
          case h63 => have := HK.out.2.2.2.2.1; have := HH.out.2.2.2.2.1; unfold maxLen; omega
          case hby => have := HK.out.2.2.2.2.1; have := HH.out.2.2.2.2.1; omega
          try case hbase => simpa using hsz3
          intro g2 cap w5 ho5 hg5 hat5 hlt5
          have H5 := Lib.hid (show StN w1 w5 (.pointer (some ⟨g, 0, none⟩)) d' (.slice (some ⟨g2, 0, none⟩) (k + 1) cap) (genL gen 0 (l.take (k + 1))) [] from
            H3A.out.grown (g := g2) (by
              unfold OwnM
              rw [HK.out.2.2.2.1, mcells_snoc, List.length_append, HLN.out]
              exact ho5) hg5 rfl (hat5.imp id fun e => by rw [e]; simp))
          clear ho5 hg5 hat5 hlt5 hown2 hsz3 hnews c0 c1 c2 c3 c4
          go_wp2_with fail
          exact ⟨⟨d', k + 1, nx, by have := HKL.out; omega, by go_num, rfl, H5.out, .inr ⟨HKL.out, HN.out⟩⟩, by have := HKL.out; simp [intOf]; omega⟩
    · obtain ⟨hkl, ms, m, hL, hms, hF⟩ : k = l.length ∧ ∃ ms m, genL gen 0 l = ms ++ [m] ∧ ms.length + 1 = l.length ∧ FinS gen ms m d := hor.elim (fun h => by omega) id
      have k0 : ¬ (k : Int) < (l.length : Int) := by omega
      have hst' := hst
      obtain ⟨L, hLd⟩ : ∃ L, L = ms ++ [m] := ⟨_, rfl⟩
      rw [hkl, List.take_length, hL, ← hLd] at hst'
      have hLl : L.length = ms.length + 1 := by rw [hLd]; simp
      obtain ⟨dn, hdn⟩ : ∃ dn, d.down = dn := ⟨_, rfl⟩
      obtain ⟨hsc, hsc1⟩ := hF
      rw [← hLd] at hsc
      have HS := Lib.hid (And.intro hst' (And.intro hdn (And.intro hLl (show L.length ≤ 100000 ∧ L.take ms.length = ms from ⟨by have := HH.out.2.2.2.2.1; omega, by rw [hLd]; simp⟩))))
      have hsub : (L.length : Int) - 1 = (ms.length : Int) := by omega
      clear hst hor hkl hL hst' hms hk hlt hLd hLl
      go_wp2_with fail
      refine (down_st HS.out.1.st HS.out.2.1).mono ?_
      rintro e w4 ⟨rfl, rfl⟩
      go_wp2_with fail
      refine (restart_sn HS.out.1 rfl).mono ?_
      rintro e w5 ⟨rfl, h5⟩
      have H5 := Lib.hid h5
      clear h5
      rcases hsc with ⟨z, hsc⟩ | ⟨hdown, z, hsc⟩
      · have HSC := Lib.hid (And.intro hsc hsc1)
        clear hsc hsc1 hdn
        go_wp2_with fail
        refine (scan_st H5.out.st HH.out.2.2.1 gen HSC.out.1 rfl).mono ?_
        rintro e w6 ⟨q1, c1, rfl, -, hm1, -, h6, hb6⟩
        have H6 := Lib.hid (And.intro h6 (And.intro hm1 (H5.out.row.below hb6)))
        clear hm1 h6 hb6
        go_wp2_with fail
        refine (scan_st H6.out.1 HH.out.2.2.1 (gen + 1) HSC.out.2 (Z := 300) rfl).mono ?_
        rintro e w7 ⟨q2, c2, rfl, -, -, -, h7, hb7⟩
        obtain ⟨q3, c3, hv3, -, -, hm3⟩ := (H6.out.2.2.below hb7).at
        subst hv3
        have H7 := Lib.hid (And.intro (h7.old) (And.intro (H6.out.2.1.below hb7) hm3))
        clear hm3 h7 hb7
        go_wp2_with fail
        refine (same_yes q1 q3 c1 c3 L w7 H7.out.2.1 H7.out.2.2 HS.out.2.2.2.1).mono ?_
        rintro e w8 ⟨rfl, hb8⟩
        have HB8 := Lib.hid (H7.out.1.trans (hb8.mono H7.out.1.size))
        clear hb8
        go_wp2_with fail
        refine (known_any _ (HH.out.2.2.1.below HB8.out)).mono ?_
        rintro e w9 ⟨rfl, hb9⟩
        have HB9 := Lib.hid (HH.out.2.2.2.2.2.2.1.trans ((HB8.out.trans (hb9.mono HB8.out.size)).mono HH.out.2.2.2.2.2.2.1.size))
        clear hb9
        go_wp2_with fail
        go_ret
        exact ⟨rfl, HB9.out⟩
      · have HSC := Lib.hid (And.intro hsc hsc1)
        rw [hdown] at hdn
        subst hdn
        have hne : L.length ≠ ms.length := by have := HS.out.2.2.1; omega
        have HNE := Lib.hid (Ne.symm hne)
        have hm0 : (ms.length : Int) ≤ 100000 := by have := HS.out.2.2.1; have := HS.out.2.2.2.1; omega
        have hlm : (ms.length : Int) ≤ (L.length : Int) := by omega
        clear hsc hsc1 hdown hne
        go_wp2_with fail
        refine (scan_st H5.out.st HH.out.2.2.1 gen HSC.out.1 rfl).mono ?_
        rintro e w6 ⟨q1, c1, rfl, -, hm1, -, h6, hb6⟩
        have H6 := Lib.hid (And.intro h6 (And.intro hm1 (H5.out.row.below hb6)))
        clear hm1 h6 hb6
        go_wp2_with fail
        refine (scan_st H6.out.1 HH.out.2.2.1 (gen + 1) HSC.out.2 (Z := 300) rfl).mono ?_
        rintro e w7 ⟨q2, c2, rfl, -, -, -, h7, hb7⟩
        obtain ⟨q3, c3, hv3, hlc3, -, hm3⟩ := (H6.out.2.2.below hb7).at
        subst hv3
        have hlc4 : (L.length : Int) ≤ (c3 : Int) := by omega
        have H7 := Lib.hid (And.intro (h7.old) (And.intro (H6.out.2.1.below hb7) (show MksAt w7 q3 ms from by have := hm3.take ms.length; rw [HS.out.2.2.2.2] at this; exact this)))
        clear hm3 h7 hb7 hlc3
        go_wp2_with fail
        refine (same_no q1 q3 ms.length L.length c1 c3 w7 HNE.out).mono ?_
        rintro e w8 ⟨rfl, rfl⟩
        go_wp2_with fail
        refine (same_yes q1 q3 c1 c3 ms w7 (H7.out.2.1) H7.out.2.2 (by omega)).mono ?_
        rintro e w8 ⟨rfl, hb8⟩
        have HB8 := Lib.hid (H7.out.1.trans (hb8.mono H7.out.1.size))
        clear hb8
        go_wp2_with fail
        refine (known_any _ (HH.out.2.2.1.below HB8.out)).mono ?_
        rintro e w9 ⟨rfl, hb9⟩
        have HB9 := Lib.hid (HH.out.2.2.2.2.2.2.1.trans ((HB8.out.trans (hb9.mono HB8.out.size)).mono HH.out.2.2.2.2.2.2.1.size))
        clear hb9
        go_wp2_with fail
        go_ret
        exact ⟨rfl, HB9.out⟩

set_option maxHeartbeats 2000000 in
set_option maxRecDepth 100000 in
/-- THE LAW's WALK. -/
theorem mrow_law (gen : Int) (pl : Option Addr) (cl : Nat) (l : List AnsV) (at_ : Int) (q : Option Addr) (c : Nat) (left : List Int) (w : World) (hl : AnsAt w pl l) (hk : KeepsAt w (.slice q left.length c) left) (hg : NetP.Glob w) :
    Calls Tryd.prog 5 #[.int .i64 gen, .slice pl l.length cl, .agg #[.int .i64 at_, .slice q left.length c]] w fun e w' => e = .returned (.bool true) ∧ Below w.heap.size w w' := by
  have HB := Lib.hid (show Below w.heap.size w (w.alloc (.cells #[.int .i64 at_, .slice q left.length c] 36)) from (Below.refl _ _).alloc (Nat.le_refl _) _)
  by_cases a1 : gen < 0
  · clear hl hk hg
    go_enter Tryd.func5, Tryd.ntmps5
    go_wp2_with fail
    go_ret
    exact ⟨rfl, HB.out⟩
  · have b1 : 0 ≤ gen := by omega
    by_cases a2 : 1000 < gen
    · clear hl hk hg a1
      go_enter Tryd.func5, Tryd.ntmps5
      go_wp2_with fail
      go_ret
      exact ⟨rfl, HB.out⟩
    · have b2 : gen ≤ 1000 := by omega
      by_cases a3 : (l.length : Int) < 1
      · clear hl hk hg a1 a2
        go_enter Tryd.func5, Tryd.ntmps5
        go_wp2_with fail
        go_ret
        exact ⟨rfl, HB.out⟩
      · have b3 : (1 : Int) ≤ (l.length : Int) := by omega
        by_cases a4 : (10 : Int) < (l.length : Int)
        · clear hl hk hg a1 a2 a3
          go_enter Tryd.func5, Tryd.ntmps5
          go_wp2_with fail
          go_ret
          exact ⟨rfl, HB.out⟩
        · have b4 : (l.length : Int) ≤ 10 := by omega
          by_cases a5 : (50 : Int) < (left.length : Int)
          · clear hl hk hg a1 a2 a3 a4
            go_enter Tryd.func5, Tryd.ntmps5
            go_wp2_with fail
            go_ret
            exact ⟨rfl, HB.out⟩
          · have b5 : (left.length : Int) ≤ 50 := by omega
            by_cases a6 : at_ < 0
            · clear hl hk hg a1 a2 a3 a4 a5
              go_enter Tryd.func5, Tryd.ntmps5
              go_wp2_with fail
              go_ret
              exact ⟨rfl, HB.out⟩
            · exact mrow_in gen b1 b2 pl cl l (by omega) (by omega) at_ (by omega) q c left (by omega) w hl hk hg
end Go.Proofs.YtilplpjdbkipoaaDoor
