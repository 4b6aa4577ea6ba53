/-
  Proved: Write: a sector's bytes are pending; or the disk crashes; or the write is refused. Conditions: the disk lies in memory, the bytes can be read; so many writes and operations were not yet that their number would wrap.
-/
import Derived.Test.YtilplpjdbkipoaaDoorDiskFlush
import Derived.Deep.RegionLaw
namespace Go.Proofs.YtilplpjdbkipoaaDoor
open Go Go.RowKit DiskMath NetMem

theorem write_down (g s : Nat) (pv lv : Value) (d : Dk) (i : Int) (v : Value) (w : World) (h : DiskM w g s pv lv d) (hd : d.down = true) :
    Calls Tryd.prog 60 #[.pointer (some ⟨g, 0, none⟩), .int .i64 i, v] w fun e w' => e = .returned (.int .i64 5) ∧ w = w' := by
  have HD := Lib.hid (down_m g s pv lv d w h)
  rw [hd] at HD
  clear h hd
  go_enter Tryd.func60, Tryd.ntmps60
  go_wp2_with fail
  refine HD.out.mono ?_
  rintro e w1 ⟨rfl, rfl⟩
  go_wp2_with fail
  go_ret
  exact ⟨rfl, rfl⟩
theorem write_nil (i : Int) (v : Value) (w : World) :
    Calls Tryd.prog 60 #[.pointer none, .int .i64 i, v] w fun e w' => e = .returned (.int .i64 5) ∧ w = w' := by
  go_enter Tryd.func60, Tryd.ntmps60
  go_wp2_with fail
  refine (down_nil w).mono ?_
  rintro e w1 ⟨rfl, rfl⟩
  go_wp2_with fail
  go_ret
  exact ⟨rfl, rfl⟩

theorem write_long (g s : Nat) (pv lv : Value) (d : Dk) (i : Int) (p : Option Addr) (n c : Nat) (w : World) (h : DiskM w g s pv lv d) (hd : d.down = false) (hn : n ≠ 16) :
    Calls Tryd.prog 60 #[.pointer (some ⟨g, 0, none⟩), .int .i64 i, .slice p n c] w fun e w' => e = .returned (.int .i64 1) ∧ w = w' := by
  have HD := Lib.hid (down_m g s pv lv d w h)
  rw [hd] at HD
  have hne : ((n : Int) != 16) = true := by simp; omega
  clear h hd
  go_enter Tryd.func60, Tryd.ntmps60
  go_wp2_with fail
  refine HD.out.mono ?_
  rintro e w1 ⟨rfl, rfl⟩
  go_wp2_with fail
  go_ret
  exact ⟨rfl, rfl⟩

set_option maxHeartbeats 1000000 in
theorem write_none (g s : Nat) (pv lv : Value) (d : Dk) (i : Int) (p : Option Addr) (c : Nat) (w : World) (h : DiskM w g s pv lv d) (hd : d.down = false) (hi : d.has i = false) :
    Calls Tryd.prog 60 #[.pointer (some ⟨g, 0, none⟩), .int .i64 i, .slice p 16 c] w fun e w' => e = .returned (.int .i64 4) ∧ w = w' := by
  have HD := Lib.hid (down_m g s pv lv d w h)
  rw [hd] at HD
  have HH := Lib.hid (has_m g s pv lv d i w h)
  rw [hi] at HH
  clear h hd hi
  go_enter Tryd.func60, Tryd.ntmps60
  go_wp2_with fail
  refine HD.out.mono ?_
  rintro e w1 ⟨rfl, rfl⟩
  go_wp2_with fail
  refine HH.out.mono ?_
  rintro e w1 ⟨rfl, rfl⟩
  go_wp2_with fail
  go_ret
  exact ⟨rfl, rfl⟩

set_option maxHeartbeats 1000000 in
theorem write_hit (g s : Nat) (pv lv : Value) (d : Dk) (i : Int) (p : Option Addr) (c : Nat) (w : World) (h : DiskM w g s pv lv d) (hd : d.down = false) (hi : d.has i = true) (hh : d.hits = true) :
    Calls Tryd.prog 60 #[.pointer (some ⟨g, 0, none⟩), .int .i64 i, .slice p 16 c] w fun e w' => e = .returned (.int .i64 5) ∧ DiskM w' g s (.slice none 0 0) (.slice none 0 0) d.crashed ∧ Kept (fun k => k = g ∨ k = s) w w' := by
  have HD := Lib.hid (down_m g s pv lv d w h)
  rw [hd] at HD
  have HH := Lib.hid (has_m g s pv lv d i w h)
  rw [hi] at HH
  have HC := Lib.hid (crashes_hit g s pv lv d w h hh)
  clear h hd hi hh
  go_enter Tryd.func60, Tryd.ntmps60
  go_wp2_with fail
  refine HD.out.mono ?_
  rintro e w1 ⟨rfl, rfl⟩
  go_wp2_with fail
  refine HH.out.mono ?_
  rintro e w1 ⟨rfl, rfl⟩
  go_wp2_with fail
  refine HC.out.mono ?_
  rintro e w1 ⟨rfl, h1, h2⟩
  have H1 := Lib.hid (And.intro h1 h2)
  clear h1 h2
  go_wp2_with fail
  go_ret
  exact ⟨rfl, H1.out.1, H1.out.2⟩

theorem run_array (a : Addr) (c : Nat) (w : World) : (Instr.arrayAt 90 (.slice (some a) 16 c)).run Tryd.prog w = .ok (.pointer (some a)) w := by
  simp [Instr.arrayAt, run_underlying Tryd.underlying90]
theorem info51 : (Tryd.prog.info? 92).map (fun i => (i.zero, i.size, i.bytes)) = some (some (.agg zeroW), 17, 24) := by kernel_rfl

theorem sixteen {l : List Value} (h : l.length = 16) : ∃ b0 b1 b2 b3 b4 b5 b6 b7 b8 b9 b10 b11 b12 b13 b14 b15, l = [b0, b1, b2, b3, b4, b5, b6, b7, b8, b9, b10, b11, b12, b13, b14, b15] := by
  match l, h with
  | [b0, b1, b2, b3, b4, b5, b6, b7, b8, b9, b10, b11, b12, b13, b14, b15], _ => exact ⟨b0, b1, b2, b3, b4, b5, b6, b7, b8, b9, b10, b11, b12, b13, b14, b15, rfl⟩

/-- What is pending, with one write more. -/
theorem pend_put {w0 : World} {g s : Nat} {pv lv : Value} {d : Dk} {i : Nat} {l : List UInt8} (h : DiskM w0 g s pv lv d) (hi : i < d.s.length) (hl : l.length = 16) (o2 : Obj) (w1 : World) (q cap : Nat)
    (hown : w1.ownsRow 0 92 17 (.slice (some ⟨q, 0, none⟩) (d.p.length + 1) cap) (d.p.length + 1) (pcells d.p ++ pcells [(i, l)]))
    (hgrow : (((w0.alloc (.cells (Lib.byteCells l).toArray 90)).alloc o2).drew).grownBy w1 pv.ownBlock) (hat : pv.ownBlock = some q ∨ q = w0.heap.size + 2) :
    DiskM (w1.setCell ⟨g, 1, none⟩ (.slice (some ⟨q, 0, none⟩) (d.p.length + 1) cap)) g s (.slice (some ⟨q, 0, none⟩) (d.p.length + 1) cap) lv { d with p := d.p ++ [(i, l)] } ∧
      (w1.setCell ⟨g, 1, none⟩ (.slice (some ⟨q, 0, none⟩) (d.p.length + 1) cap)).rangeAt w0.heap.size 0 (Lib.byteCells l) ∧
      Kept (fun k => k = g ∨ pv.ownBlock = some k) w0 (w1.setCell ⟨g, 1, none⟩ (.slice (some ⟨q, 0, none⟩) (d.p.length + 1) cap)) ∧ w0.heap.size < w1.heap.size := by
  have hg := h.glt
  have hs := h.secs.2.2.2.2.lt
  have hsz2 : (((w0.alloc (.cells (Lib.byteCells l).toArray 90)).alloc o2).drew).heap.size = w0.heap.size + 2 := by
    show ((w0.alloc (.cells (Lib.byteCells l).toArray 90)).alloc o2).heap.size = _
    simp
  have hsz := hgrow.size
  rw [hsz2] at hsz
  have hold : ∀ k, k < w0.heap.size → (((w0.alloc (.cells (Lib.byteCells l).toArray 90)).alloc o2).drew).heap[k]? = w0.heap[k]? := fun k hk =>
    (Below.heap_alloc _ _ _ (by simp; omega)).trans (Below.heap_alloc _ _ _ hk)
  have hb : ∀ k, k < w0.heap.size → pv.ownBlock ≠ some k → w1.heap[k]? = w0.heap[k]? := fun k hk hn => (hgrow.block k (by rw [hsz2]; omega) (Ne.symm hn)).trans (hold k hk)
  have hq : q ≠ g ∧ q ≠ s ∧ ∀ k, lv.ownBlock = some k → q ≠ k := by
    rcases hat with e | e
    · exact ⟨fun e' => h.pg (by rw [e, e']), fun e' => h.ps (by rw [e, e']), fun k hk e' => h.lp k hk (by rw [e, e'])⟩
    · exact ⟨by omega, by omega, fun k hk => by have := (h.left.lt k hk).2; omega⟩
  have hset : ∀ (v : Value) k, k ≠ g → (w1.setCell ⟨g, 1, none⟩ v).heap[k]? = w1.heap[k]? := fun v k hk => heap_setCell_ne w1 ⟨g, 1, none⟩ v k hk
  have hss : ∀ v : Value, (w1.setCell ⟨g, 1, none⟩ v).heap.size = w1.heap.size := fun v => by simp [World.setCell]
  refine ⟨{ head := ?_, secs := ?_, pend := ?_, pok := ?_, left := ?_, gs := h.gs, pg := ?_, ps := ?_, lg := h.lg, ls := h.ls, lp := ?_ }, ?_, ?_, by omega⟩
  · rw [heap_set ((hb g hg h.pg).trans h.head)]
    rfl
  · exact h.secs.keep ((hset _ s (Ne.symm h.gs)).trans (hb s hs h.ps)) (by rw [hss]; omega)
  · rw [pcells_append]
    have : (d.p ++ [(i, l)]).length = d.p.length + 1 := by simp
    simp only [this]
    exact ownsRow_block hown fun k hk => hset _ k (by have : q = k := by simpa [Value.ownBlock] using hk
                                                      rw [← this]; exact hq.1)
  · intro x hx
    rcases List.mem_append.1 hx with hx | hx
    · exact h.pok x hx
    · obtain rfl : x = (i, l) := by simpa using hx
      exact ⟨hi, hl⟩
  · exact ownsRow_block h.left fun k hk => (hset _ k (fun e => h.lg (by rw [hk, e]))).trans (hb k (h.left.lt k hk).2 (h.lp k hk))
  · simpa [Value.ownBlock] using hq.1
  · simpa [Value.ownBlock] using hq.2.1
  · intro k hk
    simpa [Value.ownBlock] using hq.2.2 k hk
  · refine rangeAt_block (w := (((w0.alloc (.cells (Lib.byteCells l).toArray 90)).alloc o2).drew)) (fun j v hv => ?_) ?_
    · have h1 := new_cell w0 (Lib.byteCells l).toArray 90 (0 + j)
      have h2 : ((w0.alloc (.cells (Lib.byteCells l).toArray 90)).alloc o2).cell? ⟨w0.heap.size, 0 + j, none⟩ = (w0.alloc (.cells (Lib.byteCells l).toArray 90)).cell? ⟨w0.heap.size, 0 + j, none⟩ := World.cell?_alloc_lt _ _ _ (by simp)
      exact (h2.trans h1).trans (by rw [Nat.zero_add]; simpa using hv)
    · rw [hset _ _ (by omega)]
      refine hgrow.block _ (by rw [hsz2]; omega) (fun e => ?_)
      have := (h.pend.lt _ e.symm).2
      omega
  · refine Kept.setCell ?_ (.inl (.inl rfl)) _
    refine Kept.grown (w := (((w0.alloc (.cells (Lib.byteCells l).toArray 90)).alloc o2).drew)) ((((Kept.refl _ w0).alloc _).alloc _).drew) hgrow fun k hk => .inl (.inr hk)

/-- What is there while the sector that was written last is laid. -/
def writeS (g s N H o : Nat) (cs : List Value) (W : World) : Prop :=
  W.cell? ⟨g, 0, none⟩ = some (.slice (some ⟨s, 0, none⟩) N N) ∧ W.rangeAt H 0 cs ∧ W.there s o 16
theorem writeS.store {g s N H o : Nat} {cs : List Value} {W : World} (h : writeS g s N H o cs W) (hg : g ≠ s) (hH : H ≠ s) (ds : List Value) : writeS g s N H o cs (W.setCells s o ds) :=
  ⟨by rw [World.cell?_setCells_out s ds o W _ (fun e => absurd e hg)]; exact h.1, World.rangeAt_setCells_apart h.2.1 _ _ _ (.inl hH), World.there_setCells h.2.2 _ _ _⟩
theorem writeS.drew {g s N H o : Nat} {cs : List Value} {W : World} (h : writeS g s N H o cs W) : writeS g s N H o cs W.drew := by
  unfold writeS at h ⊢
  simpa using h
theorem last_put {W : World} {g s : Nat} {pv lv : Value} {d : Dk} {p : List (Nat × List UInt8)} {i : Nat} {l : List UInt8} (h : DiskM W g s pv lv { d with p := p }) (hi : i < d.s.length) (hl : l.length = 16) :
    DiskM (W.drew.setCells s (i * 32 + 16) (Lib.byteCells l)) g s pv lv { d with p := p, s := d.s.modify i fun y => (y.1, l) } := by
  have h1 := h.far ((Kept.refl (fun _ => False) W).drew) fun _ _ h => h
  have hs := h1.secs.put2 i hi l hl
  have hb : ∀ j, j ≠ s → (W.drew.setCells s (i * 32 + 16) (Lib.byteCells l)).heap[j]? = W.drew.heap[j]? := (setCells_same s _ _ _).2.2.2.2
  have hlen : (d.s.modify i fun y => (y.1, l)).length = d.s.length := List.length_modify ..
  exact { head := by rw [hb g h1.gs]; have := h1.head; unfold headV at this ⊢; simp only at this ⊢; rw [hlen]; exact this
          secs := hs
          pend := ownsRow_block h1.pend fun j hj => hb j fun e => h1.ps (by rw [hj, e])
          pok := by have := h1.pok; simp only at this ⊢; rw [hlen]; exact this
          left := ownsRow_block h1.left fun j hj => hb j fun e => h1.ls (by rw [hj, e])
          gs := h1.gs, pg := h1.pg, ps := h1.ps, lg := h1.lg, ls := h1.ls, lp := h1.lp }

set_option maxHeartbeats 8000000 in
set_option maxRecDepth 100000 in
theorem write_go (g s : Nat) (pv lv : Value) (d : Dk) (i : Nat) (p : Option Addr) (c : Nat) (l : List UInt8) (w : World) (h : DiskM w g s pv lv d) (hd : d.down = false) (hi : i < d.s.length) (hh : d.hits = false)
    (hr : Row w (.slice p 16 c) l) (hn : d.n < 4611686018427387904) (hp : d.p.length < 4294967296) :
    Calls Tryd.prog 60 #[.pointer (some ⟨g, 0, none⟩), .int .i64 (i : Int), .slice p 16 c] w fun e w' => e = .returned (.int .i64 0) ∧ ∃ pv', DiskM w' g s pv' lv (d.put i l) ∧ Kept (fun k => k = g ∨ k = s ∨ pv.ownBlock = some k) w w' ∧
      ∀ k, pv'.ownBlock = some k → pv.ownBlock = some k ∨ w.heap.size ≤ k := by
  have HD := Lib.hid (down_m g s pv lv d w h)
  rw [hd] at HD
  have HH := Lib.hid (has_m g s pv lv d i w h)
  rw [show d.has i = true by simp [Dk.has, hi]] at HH
  have HC := Lib.hid (crashes_not g s pv lv d w h hh)
  have HM := Lib.hid h
  have HR := Lib.hid hr
  clear h hd hh hr
  go_enter Tryd.func60, Tryd.ntmps60
  go_wp2_with fail
  refine HD.out.mono ?_
  rintro e w1 ⟨rfl, rfl⟩
  go_wp2_with fail
  refine HH.out.mono ?_
  rintro e w1 ⟨rfl, rfl⟩
  go_wp2_with fail
  refine HC.out.mono ?_
  rintro e w0 ⟨rfl, hk0⟩
  have HK0 := Lib.hid hk0
  obtain ⟨hl16, hlc, hcm, hcc⟩ := Row.nums HR.out
  obtain ⟨bb, o, rfl, hrow⟩ := hcc (by omega)
  have hm0 := HM.out.far hk0 fun _ _ h => h
  obtain ⟨b0, b1, b2, b3, b4, b5, b6, b7, b8, b9, b10, b11, b12, b13, b14, b15, hcs⟩ := sixteen (show (Lib.byteCells l).length = 16 by rw [bl]; exact hl16.symm)
  have HLb := Lib.hid (show w0.rangeAt bb o [b0, b1, b2, b3, b4, b5, b6, b7, b8, b9, b10, b11, b12, b13, b14, b15] from fun j v hv => by
    rw [← hcs] at hv
    have hj : j < (Lib.byteCells l).length := (List.getElem?_eq_some_iff.1 hv).1
    rw [bl] at hj
    rw [bc_at _ j hj] at hv
    cases hv
    exact hk0.cell (hrow j hj) (fun h => h))
  have HI := Lib.hid (show (Tryd.prog.info? 90).map (·.size) = some ([b0, b1, b2, b3, b4, b5, b6, b7, b8, b9, b10, b11, b12, b13, b14, b15] : List Value).length ∧ (Tryd.prog.info? 90).map (·.size) = some ([b0, b1, b2, b3, b4, b5, b6, b7, b8, b9, b10, b11, b12, b13, b14, b15] : List Value).toArray.size ∧ zeroC.size = ([b0, b1, b2, b3, b4, b5, b6, b7, b8, b9, b10, b11, b12, b13, b14, b15] : List Value).toArray.size ∧ ([b0, b1, b2, b3, b4, b5, b6, b7, b8, b9, b10, b11, b12, b13, b14, b15] : List Value).toArray.all (·.oneCell') = true from ⟨sizeContent, sizeContent, rfl, by rw [← hcs]; exact all_bytes l⟩)
  have HM0 := Lib.hid hm0
  obtain ⟨c0, c1, c2, -, -, -, -, cf⟩ := hm0.cells
  obtain ⟨i0, hi0, hz0, hz1, hz2⟩ := info_parts info51
  have HI0 := Lib.hid (And.intro hi0 (And.intro hz0 (And.intro hz1 hz2)))
  have hgl := hm0.glt
  have hk1 : ∀ o1, (w0.alloc o1).cell? ⟨g, 1, none⟩ = some pv := fun o1 => (World.cell?_alloc_lt _ _ _ hgl).trans c1
  have hk2 : ∀ o1 o2, ((w0.alloc o1).alloc o2).cell? ⟨g, 1, none⟩ = some pv := fun o1 o2 => (World.cell?_alloc_lt _ _ _ (by simp; omega)).trans (hk1 o1)
  have HO := Lib.hid (show ∀ o1 o2, (((w0.alloc o1).alloc o2).drew).ownsRow 0 92 17 pv d.p.length (pcells d.p) from fun o1 o2 => (hm0.pend.alloc o1).alloc o2)
  have HN := Lib.hid (show ∀ o1, ∀ j u, (Value.int .i64 (i : Int) :: [b0, b1, b2, b3, b4, b5, b6, b7, b8, b9, b10, b11, b12, b13, b14, b15])[j]? = some u → (((w0.alloc o1).alloc (.cells (Value.int .i64 (i : Int) :: [b0, b1, b2, b3, b4, b5, b6, b7, b8, b9, b10, b11, b12, b13, b14, b15]).toArray 92)).drew).cell? ((⟨w0.heap.size + 1, 0, none⟩ : Addr).add j) = some u from fun o1 j u hu => by
    rw [Lib.add_plain, Nat.zero_add, show w0.heap.size + 1 = (w0.alloc o1).heap.size by simp]
    exact (new_cell (w0.alloc o1) _ 92 j).trans (by simpa using hu))
  have HG := Lib.hid (show ∀ o1 o2 w1, (((w0.alloc o1).alloc o2).drew).grownBy w1 pv.ownBlock → w1.cell? ⟨g, 1, none⟩ = some pv ∧ w1.frozen? ⟨g, 1, none⟩ = false from fun o1 o2 w1 hgr => by
    have hne : some g ≠ pv.ownBlock := Ne.symm hm0.pg
    have hlt : g < ((w0.alloc o1).alloc o2).drew.heap.size := by show g < ((w0.alloc o1).alloc o2).heap.size; simp; omega
    refine ⟨(hgr.cell_far ⟨g, 1, none⟩ hlt hne).trans (hk2 o1 o2), (hgr.frozen_far ⟨g, 1, none⟩ hlt hne).trans ?_⟩
    have h1 : ((w0.alloc o1).alloc o2).frozen? ⟨g, 1, none⟩ = w0.frozen? ⟨g, 1, none⟩ := World.frozen?_of_block (by
      rw [Below.heap_alloc _ _ _ (by simp; omega), Below.heap_alloc _ _ _ hgl])
    exact h1.trans (cf 1))
  have H1 := Lib.hid (show ∀ u ∈ Value.int .i64 (i : Int) :: [b0, b1, b2, b3, b4, b5, b6, b7, b8, b9, b10, b11, b12, b13, b14, b15], u.oneCell' = true from fun u hu => by
    rcases List.mem_cons.1 hu with rfl | hu
    · rfl
    · rw [← hcs] at hu; exact oneCell_bytes l u hu)
  have HCS := Lib.hid hcs
  have har := run_array
  have hc16 : (16 : Int) ≤ (c : Int) := by omega
  clear hk0 hl16 hcc hrow hm0 c0 c1 c2 cf hcs hi0 hz0 hz1 hz2 hcm
  go_wp2_with (first | (refine wpList_load_mid (by rfl) 90 (.tmp 20) (by rfl) bb o (by rfl) [b0, b1, b2, b3, b4, b5, b6, b7, b8, b9, b10, b11, b12, b13, b14, b15] _ HLb.out Tryd.underlying90 (by rfl) HI.out.1 ?_) | (refine wpList_store_new (by rfl) 90 (.tmp 7) (.tmp 21) (by rfl) w0 zeroC (List.toArray [b0, b1, b2, b3, b4, b5, b6, b7, b8, b9, b10, b11, b12, b13, b14, b15]) (by rfl) (by rfl) (by rfl) HI.out.2.1 HI.out.2.2.1 HI.out.2.2.2 ?_))
  try simp only [Act.put]
  go_region_law (refine step_append_lies _ (by rfl) (.tmp 26) (.tmp 30) 65 (by rfl) 0 92 i0 (.agg zeroW) 17 24 Tryd.underlying65 HI0.out.1 HI0.out.2.1 HI0.out.2.2.1 HI0.out.2.2.2 (by rfl) (by decide) pv d.p.length (pcells d.p) (by rfl) (HO.out _ _) ⟨w0.heap.size + 1, 0, none⟩ 1 1 (Value.int .i64 (i : Int) :: [b0, b1, b2, b3, b4, b5, b6, b7, b8, b9, b10, b11, b12, b13, b14, b15]) (by rfl) (by rfl) (HN.out _) H1.out (by decide) (by unfold maxLen; omega) (by omega) (by omega) (w0.heap.size + 2) (by simp) ?_; intro q cap w1 hown hgrow hat hlt; have hx1 := (HG.out _ _ w1 hgrow).1; have hx2 := (HG.out _ _ w1 hgrow).2; have HB := Lib.hid (And.intro hown (And.intro hgrow (And.intro hat hlt))); clear hown hgrow hat hlt)
  all_goals
    clear hk1 hk2 hx1 hx2 HG HN HO
    obtain ⟨hown, hgrow, hat, hlt⟩ := HB.out
    have hput := pend_put HM0.out hi (by rw [← bl]; rw [HCS.out]; rfl) _ w1 q cap (by rw [pcells_one, wcells, HCS.out]; exact hown) (by rw [HCS.out]; exact hgrow) hat
    have HQ := Lib.hid hat
    clear hown hgrow hat hlt HB
    obtain ⟨W2, hW2⟩ : ∃ W2, W2 = w1.setCell ⟨g, 1, none⟩ (.slice (some ⟨q, 0, none⟩) (d.p.length + 1) cap) := ⟨_, rfl⟩
    rw [← hW2] at hput ⊢
    clear hW2
    obtain ⟨hd2, hr2, hk2, hs2⟩ := hput
    obtain ⟨c0, -⟩ := hd2.cells
    simp only at c0
    obtain ⟨N, hN⟩ : ∃ N, N = d.s.length := ⟨_, rfl⟩
    obtain ⟨cs, hcs⟩ : ∃ cs, cs = Lib.byteCells l := ⟨_, rfl⟩
    have hcl : cs.length = 16 := by rw [hcs, HCS.out]; rfl
    have hc1 : ∀ v ∈ cs, v.oneCell' = true := by rw [hcs]; exact oneCell_bytes _
    have h49 := Tryd.underlying90
    have h49s : (Tryd.prog.info? 90).map (·.size) = some cs.length := by rw [sizeContent, hcl]
    have hi0 : (0 : Int) ≤ (i : Int) := by omega
    have hi1 : (i : Int) < (N : Int) := by omega
    have hsec := hd2.secs
    simp only at hsec
    rw [← hN] at c0
    rw [← hcs] at hr2
    have HS := Lib.hid (show writeS g s N w0.heap.size (i * 32 + 16) cs W2.drew from writeS.drew ⟨c0, hr2, there_part hsec.2.1 16 (by omega)⟩)
    have hHs : w0.heap.size ≠ s := by have := HM0.out.secs.2.2.2.2.lt; omega
    have HGG := Lib.hid (fun (W : World) (h : writeS g s N w0.heap.size (i * 32 + 16) cs W) => h.store hd2.gs hHs cs)
    have HD2 := Lib.hid hd2
    have HK2 := Lib.hid (And.intro hk2 (And.intro hcs hN))
    clear hd2 hr2 hk2 hs2 hcs hN hsec hHs c0
    go_wp2_with fail
    go_region_held3 (fun W => W.cell? ⟨g, 0, none⟩ = some (.slice (some ⟨s, 0, none⟩) N N) ∧ W.rangeAt w0.heap.size 0 cs ∧ W.there s (i * 32 + 16) 16) (first | assumption | exact HS.out | exact HGG.out _ (by assumption)) (fail)
    have hd3 : DiskM (W2.drew.setCells s (i * 32 + 16) cs) g s (.slice (some ⟨q, 0, none⟩) (d.p.length + 1) cap) lv { d with p := d.p ++ [(i, l)], s := d.s.modify i fun y => (y.1, l) } := by
      rw [HK2.out.2.1]
      exact last_put HD2.out hi (by rw [← bl]; rw [HCS.out]; rfl)
    have hk3 : Kept (fun k => k = g ∨ k = s ∨ pv.ownBlock = some k) w (W2.drew.setCells s (i * 32 + 16) cs) :=
      (((HK0.out.mono (D' := fun k => k = g ∨ k = s ∨ pv.ownBlock = some k) fun _ _ h => h.elim).trans HK2.out.1 (fun k hk => .inl (hk.elim .inl fun h => .inr (.inr h)))).drew).setCells (.inl (.inr (.inl rfl))) _ _
    obtain ⟨W3, hW3⟩ : ∃ W3, W3 = W2.drew.setCells s (i * 32 + 16) cs := ⟨_, rfl⟩
    rw [← hW3] at hd3 hk3 ⊢
    obtain ⟨-, -, c2, -, -, -, -, cf⟩ := hd3.cells
    simp only at c2
    have f2 := cf 2
    have HD3 := Lib.hid hd3
    have HK3 := Lib.hid hk3
    clear hd3 hk3 hW3 cf HS HGG
    go_wp2_with fail
    go_ret
    refine ⟨rfl, .slice (some ⟨q, 0, none⟩) (d.p.length + 1) cap, HD3.out.turn 2 _ (d.put i l) rfl rfl rfl ?_, HK3.out.setCell (.inl (.inl rfl)) _, fun k hk => ?_⟩
    · simp [headV, Dk.put]
    · have hk' : q = k := by simpa [Value.ownBlock] using hk
      subst hk'
      rcases HQ.out with h | h
      · exact .inl h
      · right; have := HK0.out.size; omega
end Go.Proofs.YtilplpjdbkipoaaDoor
