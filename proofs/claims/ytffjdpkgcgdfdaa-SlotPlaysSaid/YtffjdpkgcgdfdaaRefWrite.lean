/-
  Proved: the statements' own disk: Write: a sector's bytes are pending; or the disk crashes; or the write is refused. Conditions: the disk lies in memory, the bytes can be read; what was handed in could be read at the beginning; so many writes and operations were not yet that their number would wrap.
-/
import Derived.Test.YtffjdpkgcgdfdaaRefFlush
import Derived.Deep.RegionLaw
namespace Go.Proofs.Ytffjdpkgcgdfdaa
open Go Go.RowKit DiskMath NetMem SpanMath

theorem own_of_row {w : World} {B : Nat} {e : TypeId} {v : Value} {n : Nat} {l : List UInt8} (h : w.ownsRow B e 1 v n (Lib.byteCells l)) : NetMem.Own w B v l := by
  obtain ⟨h1, h2⟩ := h
  rw [bl, Nat.mul_one] at h1
  rcases h2 with ⟨rfl, rfl⟩ | ⟨g, cap, cur, rfl, hB, hg, hl, hm, hs, ht⟩
  · exact .inl ⟨rfl, List.eq_nil_of_length_eq_zero h1⟩
  · rw [Nat.mul_one] at hs ht
    have hc : ∀ j, w.cell? ⟨g, j, none⟩ = cur[j]? := fun j => cell_of_row w g j _ _ _ hg
    refine .inr ⟨g, cap, by rw [h1], hB, (Array.getElem?_eq_some_iff.1 hg).1, by omega, hm, fun j hj => ⟨?_, ?_⟩, fun j hj => ?_⟩
    · rw [hc, Array.getElem?_eq_getElem (by omega)]; rfl
    · simp [World.frozen?, hg]
    · rw [hc]
      have h3 : (Lib.byteCells l)[j]? = cur.toList[j]? := by
        rw [← ht, List.getElem?_take, if_pos (by omega)]
      rw [bc_at l j hj] at h3
      rw [h3]; simp

theorem own_up {w : World} {B : Nat} {v : Value} {l : List UInt8} (h : NetMem.Own w 0 v l) (hb : ∀ k, v.ownBlock = some k → B ≤ k) : NetMem.Own w B v l := by
  rcases h with h | ⟨g, cap, rfl, -, r⟩
  · exact .inl h
  · exact .inr ⟨g, cap, rfl, hb g rfl, r⟩

section
variable {w0 w w' : World} {g : Nat} {sv pv : Value} {sb : List Nat} {ps : Pend} {d : Dk}

/-- What is pending, with one write more. -/
theorem RefM.push (h : RefM w0 w g sv pv sb ps d) {i : Nat} {l : List UInt8} (hi : i < d.s.length) (hl : l.length = 16) (q2 cap2 : Nat) (v : Value)
    (hown : w'.ownsRow 0 89 2 (.slice (some ⟨q2, 0, none⟩) (ps.length + 1) cap2) (ps.length + 1) (qcells ps ++ qcell (v, i, l)))
    (hk : ∀ k, k < w.heap.size → pv.ownBlock ≠ some k → w'.heap[k]? = w.heap[k]?) (hsz : w.heap.size ≤ w'.heap.size) (hat : pv.ownBlock = some q2 ∨ w.heap.size ≤ q2) (hv : NetMem.Own w' w.heap.size v l) (hvq : ∀ k, v.ownBlock = some k → k ≠ q2) :
    RefM w0 (w'.setCell ⟨g, 1, none⟩ (.slice (some ⟨q2, 0, none⟩) (ps.length + 1) cap2)) g sv (.slice (some ⟨q2, 0, none⟩) (ps.length + 1) cap2) sb (ps ++ [(v, i, l)]) { d with p := d.p ++ [(i, l)] } := by
  have hg := h.glt
  have hset : ∀ (u : Value) k, k ≠ g → (w'.setCell ⟨g, 1, none⟩ u).heap[k]? = w'.heap[k]? := fun u k hk => heap_setCell_ne w' ⟨g, 1, none⟩ u k hk
  have hss : ∀ u : Value, (w'.setCell ⟨g, 1, none⟩ u).heap.size = w'.heap.size := fun u => by simp [World.setCell]
  have hq2 : ∀ k, k < w.heap.size → pv.ownBlock ≠ some k → k ≠ q2 := fun k hk hn e => by
    subst e
    rcases hat with h | h
    · exact hn h
    · omega
  have hqb : ∀ k, (Value.slice (some ⟨q2, 0, none⟩) (ps.length + 1) cap2).ownBlock = some k → k = q2 := fun k hk => by
    have : q2 = k := by simpa [Value.ownBlock] using hk
    exact this.symm
  have hvlt : ∀ k, v.ownBlock = some k → w.heap.size ≤ k := fun k hk => (hv.lt k hk).1
  exact
  { head := by
      obtain ⟨at_, lv, ar, h1, h2⟩ := h.head
      refine ⟨at_, lv, ar, ?_, h2⟩
      rw [heap_set ((hk g hg h.pg).trans h1)]
      rfl
    srow := ownsRow_block h.srow fun k hk' => by
      have hlt := (h.srow.lt k hk').2
      rw [hset _ k (fun e => h.sg (by rw [hk', e]))]
      exact hk k hlt (h.sp k hk')
    slen := h.slen
    smax := h.smax
    sec := fun j hj => by
      obtain ⟨g1, g2, g3, g4⟩ := h.gs sb[j] (List.getElem_mem hj)
      have hn : (w'.setCell ⟨g, 1, none⟩ (.slice (some ⟨q2, 0, none⟩) (ps.length + 1) cap2)).heap[sb[j]]? = w.heap[sb[j]]? := (hset _ _ g1).trans (hk _ g4 g3)
      exact ⟨rangeAt_block (h.sec j hj).1 hn, there_block (h.sec j hj).2.1 hn, (h.sec j hj).2.2⟩
    prow := by
      rw [qcells_snoc]
      have e : (ps ++ [(v, i, l)]).length = ps.length + 1 := by simp
      rw [e]
      exact ownsRow_block hown fun k hk' => hset _ k fun e => hq2 g hg h.pg (by rw [← hqb k hk', e])
    pok := by
      show d.p ++ [(i, l)] = _
      rw [h.pok, List.map_append]; rfl
    pown := fun x hx => by
      rcases List.mem_append.1 hx with hx | hx
      · refine ⟨(h.pown x hx).1.keep (by rw [hss]; exact hsz) fun k hk' => ?_, (h.pown x hx).2⟩
        obtain ⟨q1, -, q3, -⟩ := h.qo x hx k hk'
        exact (hset _ k q1).trans (hk k ((h.pown x hx).1.lt k hk').2 q3)
      · obtain rfl : x = (v, i, l) := by simpa using hx
        exact ⟨(hv.mono (Nat.zero_le _)).keep (by rw [hss]; exact Nat.le_refl _) fun k hk' => hset _ k fun e => by have := hvlt k hk'; omega, hi, hl⟩
    nd := h.nd
    gs := fun b hb => by
      obtain ⟨g1, g2, g3, g4⟩ := h.gs b hb
      exact ⟨g1, g2, fun e => hq2 b g4 g3 (hqb b e), by rw [hss]; omega⟩
    sg := h.sg
    pg := fun e => hq2 g hg h.pg (hqb g e)
    sp := fun k hk' e => hq2 k (h.srow.lt k hk').2 (h.sp k hk') (hqb k e)
    qo := fun x hx k hk' => by
      rcases List.mem_append.1 hx with hx | hx
      · obtain ⟨q1, q2', q3, q4⟩ := h.qo x hx k hk'
        exact ⟨q1, q2', fun e => hq2 k ((h.pown x hx).1.lt k hk').2 q3 (hqb k e), q4⟩
      · obtain rfl : x = (v, i, l) := by simpa using hx
        have := hvlt k hk'
        refine ⟨fun e => by omega, fun e => by have := (h.srow.lt k e).2; omega, fun e => hvq k hk' (hqb k e), fun e => by have := (h.gs k e).2.2.2; omega⟩ }

theorem rwrite_down (h : RefM w0 w g sv pv sb ps d) (i : Int) (v : Value) (hd : d.down = true) :
    Calls Try.prog 39 #[.pointer (some ⟨g, 0, none⟩), .int .i64 i, v] w fun e w' => e = .returned (.int .i64 5) ∧ w = w' := by
  obtain ⟨at_, lv, ar, -, -, -, -, -, -, -, -, c6, -⟩ := h.cells
  rw [hd] at c6
  clear h hd
  go_enter Try.func39, Try.ntmps39
  go_wp2_with fail
  go_ret
  exact ⟨rfl, rfl⟩
theorem rwrite_long (h : RefM w0 w g sv pv sb ps d) (i : Int) (p : Option Addr) (n c : Nat) (hd : d.down = false) (hn : n ≠ 16) :
    Calls Try.prog 39 #[.pointer (some ⟨g, 0, none⟩), .int .i64 i, .slice p n c] w fun e w' => e = .returned (.int .i64 1) ∧ w = w' := by
  obtain ⟨at_, lv, ar, -, -, -, -, -, -, -, -, c6, -⟩ := h.cells
  rw [hd] at c6
  have hne : ((n : Int) != 16) = true := by simp; omega
  clear h hd hn
  go_enter Try.func39, Try.ntmps39
  go_wp2_with fail
  go_ret
  exact ⟨rfl, rfl⟩
theorem has_false {d : Dk} {i : Int} (h : d.has i = false) : i < 0 ∨ 0 ≤ i ∧ (d.s.length : Int) ≤ i := by
  simp only [Dk.has, Bool.and_eq_false_iff, decide_eq_false_iff_not] at h
  omega
set_option maxHeartbeats 1000000 in
theorem rwrite_none (h : RefM w0 w g sv pv sb ps d) (i : Int) (p : Option Addr) (c : Nat) (hd : d.down = false) (hi : d.has i = false) :
    Calls Try.prog 39 #[.pointer (some ⟨g, 0, none⟩), .int .i64 i, .slice p 16 c] w fun e w' => e = .returned (.int .i64 4) ∧ w = w' := by
  obtain ⟨at_, lv, ar, -, -, c0, -, -, -, -, -, c6, -⟩ := h.cells
  obtain ⟨asv, cs, hsv, -, -, -⟩ := h.sv_at
  rw [hd] at c6
  rw [hsv, h.slen] at c0
  have hh := has_false hi
  obtain ⟨N, hN⟩ : ∃ N, N = d.s.length := ⟨_, rfl⟩
  rw [← hN] at c0 hh
  clear h hd hi hN hsv
  rcases hh with h1 | ⟨h1, h2⟩
  all_goals
    go_enter Try.func39, Try.ntmps39
    go_wp2_with fail
    go_ret
    exact ⟨rfl, rfl⟩
set_option maxHeartbeats 1000000 in
theorem rwrite_hit (h : RefM w0 w g sv pv sb ps d) (i : Int) (p : Option Addr) (c : Nat) (hd : d.down = false) (hi : d.has i = true) (hh : d.hits = true) (hb0 : Below w0.heap.size w0 w) (hge : ∀ k, (k = g ∨ k ∈ sb) → w0.heap.size ≤ k) :
    Calls Try.prog 39 #[.pointer (some ⟨g, 0, none⟩), .int .i64 i, .slice p 16 c] w fun e w' => e = .returned (.int .i64 5) ∧ RefM w0 w' g sv (.slice none 0 0) sb [] d.crashed ∧ Kept (fun k => k = g ∨ k ∈ sb) w w' := by
  obtain ⟨at_, lv, ar, -, -, c0, -, -, -, -, -, c6, -⟩ := h.cells
  have HC := Lib.hid (rcrash_hit h hd hh hb0 hge)
  obtain ⟨asv, cs, hsv, -, -, -⟩ := h.sv_at
  rw [hd] at c6
  have hb : 0 ≤ i ∧ i < (d.s.length : Int) := by simpa [Dk.has] using hi
  subst hsv
  rw [h.slen] at c0
  obtain ⟨N, hN⟩ : ∃ N, N = d.s.length := ⟨_, rfl⟩
  rw [← hN] at c0 hb
  have i0 := hb.1
  have i1 := hb.2
  clear h hd hi hN hb hh hb0 hge
  go_enter Try.func39, Try.ntmps39
  go_wp2_with fail
  refine HC.out.mono ?_
  rintro e w1 ⟨rfl, h1, h2⟩
  have H1 := Lib.hid (And.intro h1 h2)
  clear h1 h2
  go_wp2_with fail
  go_ret
  exact ⟨rfl, H1.out.1, H1.out.2⟩

theorem infoB8 : (Try.prog.info? 5).map (fun i => (i.zero, i.size, i.bytes)) = some (some (.int .u8 0), 1, 1) := by kernel_rfl
theorem infoW : (Try.prog.info? 89).map (fun i => (i.zero, i.size, i.bytes)) = some (some (.agg #[.int .i64 0, .slice none 0 0]), 2, 32) := by kernel_rfl

set_option maxHeartbeats 8000000 in
set_option maxRecDepth 100000 in
theorem rwrite_go (h : RefM w0 w g sv pv sb ps d) (i : Nat) (p : Option Addr) (c : Nat) (l : List UInt8) (hd : d.down = false) (hi : i < d.s.length) (hh : d.hits = false) (hr : Row w (.slice p 16 c) l) (hn : d.n < 4611686018427387904) (hp : ps.length < 4294967296) :
    Calls Try.prog 39 #[.pointer (some ⟨g, 0, none⟩), .int .i64 (i : Int), .slice p 16 c] w fun e w' => e = .returned (.int .i64 0) ∧ ∃ q cap v, RefM w0 w' g sv (.slice (some ⟨q, 0, none⟩) (ps.length + 1) cap) sb (ps ++ [(v, i, l)]) (d.put i l) ∧
      Kept (fun k => k = g ∨ pv.ownBlock = some k) w w' ∧ (pv.ownBlock = some q ∨ w.heap.size ≤ q) ∧ ∀ k, v.ownBlock = some k → w.heap.size ≤ k := by
  obtain ⟨at0, lv, ar, -, -, c0, -, -, -, -, -, c6, -⟩ := h.cells
  have HCR := Lib.hid (rcrash_not h hd hh)
  obtain ⟨asv, cs, hsv, -, -, -⟩ := h.sv_at
  rw [hd] at c6
  subst hsv
  have hslen := h.slen
  obtain ⟨N, hN⟩ : ∃ N, N = sb.length := ⟨_, rfl⟩
  rw [← hN] at c0
  have i0 : (0 : Int) ≤ (i : Int) := by omega
  have i1 : (i : Int) < (N : Int) := by omega
  have HH := Lib.hid (And.intro h (And.intro hr (And.intro hN hi)))
  have HP := Lib.hid (And.intro hn hp)
  clear h hd hh hr hN hn hslen hi hp
  go_enter Try.func39, Try.ntmps39
  go_wp2_with fail
  refine HCR.out.mono ?_
  rintro e w1 ⟨rfl, hk0⟩
  have hm := HH.out.1.far hk0 fun _ _ h => h
  obtain ⟨hl16, hlc, hcm, hcc⟩ := Row.nums HH.out.2.1
  obtain ⟨bb, o, rfl, hrow⟩ := hcc (by omega)
  have HK0 := Lib.hid hk0
  have HM := Lib.hid hm
  obtain ⟨at1, lv1, ar1, -, -, -, c1, -, -, c4, -, -, cf⟩ := hm.cells
  have hgl := hm.glt
  obtain ⟨iB, hiB, zB, sB, bB⟩ := info_parts infoB8
  obtain ⟨iW, hiW, zW, sW, bW⟩ := info_parts infoW
  have HI := Lib.hid (And.intro hiB (And.intro zB (And.intro sB (And.intro bB (And.intro hiW (And.intro zW (And.intro sW bW)))))))
  have hk1 : ∀ o1, (w1.alloc o1).cell? ⟨g, 1, none⟩ = some pv := fun o1 => (World.cell?_alloc_lt _ _ _ hgl).trans c1
  have HA := Lib.hid (show ((w1.alloc (.cells #[] 5)).drew).ownsRow 0 5 1 (.slice (some ⟨w1.heap.size, 0, none⟩) 0 0) 0 [] from World.ownsRow_made w1 #[] 0 (Nat.zero_le _) (by simp [maxLen]) rfl)
  have HNA := Lib.hid (show ∀ j u, (Lib.byteCells l)[j]? = some u → ((w1.alloc (.cells #[] 5)).drew).cell? ((⟨bb, o, none⟩ : Addr).add j) = some u from fun j u hu => by
    have hj : j < l.length := by have := (List.getElem?_eq_some_iff.1 hu).1; rwa [bl] at this
    rw [bc_at l j hj] at hu
    rw [Lib.add_plain, ← hu]
    have h1 : w1.cell? ⟨bb, o + j, none⟩ = some (.int .u8 (l[j].toNat : Int)) := hk0.cell (hrow j hj) (fun h => h)
    exact (World.cell?_alloc_lt _ _ _ (World.block_lt_of_cell? w1 _ h1)).trans h1)
  have HLN := Lib.hid (show (Lib.byteCells l).length = 16 * 1 from by rw [bl]; omega)
  have HL1 := Lib.hid (show ∀ u ∈ Lib.byteCells l, u.oneCell' = true from oneCell_bytes l)
  have HGA := Lib.hid (show ∀ wA : World, ((w1.alloc (.cells #[] 5)).drew).grownBy wA (some w1.heap.size) → (∀ k, k < w1.heap.size → wA.heap[k]? = w1.heap[k]?) ∧ w1.heap.size < wA.heap.size from fun wA hg => ⟨fun k hk => (hg.block k (by show k < (w1.alloc _).heap.size; simp; omega) (by simp; omega)).trans (Below.heap_alloc _ _ _ hk), by
    have := hg.size
    have e : ((w1.alloc (.cells #[] 5)).drew).heap.size = w1.heap.size + 1 := by show (w1.alloc _).heap.size = _; simp
    omega⟩)
  have HF := Lib.hid (cf 1)
  clear hk0 hl16 hcc hrow hm hiB zB sB bB hiW zW sW bW cf c0 c6
  go_wp2_with fail
  go_region_law (first | (refine step_append_lies _ (by rfl) (.tmp 37) (.tmp 38) 27 (by rfl) 0 5 iB (.int .u8 0) 1 1 Try.underlying27 HI.out.1 HI.out.2.1 HI.out.2.2.1 HI.out.2.2.2.1 (by rfl) (by decide) (.slice (some ⟨w1.heap.size, 0, none⟩) 0 0) 0 [] (by rfl) HA.out ⟨bb, o, none⟩ 16 c (Lib.byteCells l) (by rfl) HLN.out HNA.out HL1.out (by decide) (by unfold maxLen; omega) (by omega) (by omega) (w1.heap.size + 1) (by simp) ?_; intro q1 cap1 wA hownA hgrowA hatA hltA; have hA1 := (HGA.out wA hgrowA).1; have hA2 := (HGA.out wA hgrowA).2; have hcA := (World.cell?_of_block (a := ⟨g, 1, none⟩) (hA1 g HM.out.glt)).trans c1; have hkA : ∀ o1, (wA.alloc o1).cell? ⟨g, 1, none⟩ = some pv := fun o1 => (World.cell?_alloc_lt _ _ _ (by show g < wA.heap.size; have := HM.out.glt; omega)).trans hcA; have HOA := Lib.hid (And.intro hownA (And.intro hgrowA (And.intro hatA (And.intro hltA (And.intro hA1 hA2))))); have HNB := Lib.hid (show ∀ j u, ([.int .i64 (i : Int), .slice (some ⟨q1, 0, none⟩) 16 cap1] : List Value)[j]? = some u → (wA.alloc (.cells #[.int .i64 (i : Int), .slice (some ⟨q1, 0, none⟩) 16 cap1] 89)).cell? ((⟨wA.heap.size, 0, none⟩ : Addr).add j) = some u from fun j u hu => by rw [Lib.add_plain, Nat.zero_add]; exact (new_cell wA #[.int .i64 (i : Int), .slice (some ⟨q1, 0, none⟩) 16 cap1] 89 j).trans (by simpa using hu)); have HOB := Lib.hid (show ∀ o1, (wA.alloc o1).ownsRow 0 89 2 pv ps.length (qcells ps) from fun o1 => (ownsRow_block HM.out.prow fun k hk => hA1 k (HM.out.prow.lt k hk).2).alloc o1); clear hownA hgrowA hatA hltA hA1 hA2) | (refine step_append_lies _ (by rfl) (.tmp 35) (.tmp 41) 53 (by rfl) 0 89 iW (.agg #[.int .i64 0, .slice none 0 0]) 2 32 Try.underlying53 HI.out.2.2.2.2.1 HI.out.2.2.2.2.2.1 HI.out.2.2.2.2.2.2.1 HI.out.2.2.2.2.2.2.2 (by rfl) (by decide) pv ps.length (qcells ps) (by rfl) (HOB.out _) ⟨wA.heap.size, 0, none⟩ 1 1 [.int .i64 (i : Int), .slice (some ⟨q1, 0, none⟩) 16 cap1] (by rfl) (by rfl) HNB.out (by intro u hu; simp only [List.mem_cons, List.not_mem_nil, or_false] at hu; rcases hu with rfl | rfl <;> rfl) (by decide) (by have := HP.out.2; unfold maxLen; omega) (by have := HP.out.2; omega) (by omega) (wA.heap.size + 1) (by simp) ?_; intro q2 cap2 wB hownB hgrowB hatB hltB; have hB1 : wB.cell? ⟨g, 1, none⟩ = some pv := (hgrowB.cell_far ⟨g, 1, none⟩ (by show g < (wA.alloc _).heap.size; have := HM.out.glt; have := HOA.out.2.2.2.2.2; simp; omega) (Ne.symm HM.out.pg)).trans (hkA _); have hB2 : wB.frozen? ⟨g, 1, none⟩ = false := (hgrowB.frozen_far ⟨g, 1, none⟩ (by show g < (wA.alloc _).heap.size; have := HM.out.glt; have := HOA.out.2.2.2.2.2; simp; omega) (Ne.symm HM.out.pg)).trans ((World.frozen?_of_block (a := ⟨g, 1, none⟩) ((Below.heap_alloc _ _ g (by have := HM.out.glt; have := HOA.out.2.2.2.2.2; omega)).trans (HOA.out.2.2.2.2.1 g HM.out.glt))).trans HF.out); have HOBB := Lib.hid (And.intro hownB (And.intro hgrowB (And.intro hatB hltB))); clear hownB hgrowB hatB hltB))
  all_goals
    have hpush : RefM w0 (wB.setCell ⟨g, 1, none⟩ (.slice (some ⟨q2, 0, none⟩) (ps.length + 1) cap2)) g (.slice asv sb.length cs) (.slice (some ⟨q2, 0, none⟩) (ps.length + 1) cap2) sb (ps ++ [(.slice (some ⟨q1, 0, none⟩) 16 cap1, i, l)]) { d with p := d.p ++ [(i, l)] } ∧ Kept (fun k => k = g ∨ pv.ownBlock = some k) w (wB.setCell ⟨g, 1, none⟩ (.slice (some ⟨q2, 0, none⟩) (ps.length + 1) cap2)) ∧ (pv.ownBlock = some q2 ∨ w.heap.size ≤ q2) ∧ w.heap.size ≤ q1 := by
      obtain ⟨hownA, hgrowA, hatA, hltA, hA1, hA2⟩ := HOA.out
      obtain ⟨hownB, hgrowB, hatB, hltB⟩ := HOBB.out
      have hl16 : l.length = 16 := by have := HLN.out; rwa [bl] at this
      have hq1 : w1.heap.size ≤ q1 := by
        rcases hatA with h | h
        · have : w1.heap.size = q1 := by simpa [Value.ownBlock] using h
          omega
        · omega
      have hkW : ∀ k, k < w1.heap.size → pv.ownBlock ≠ some k → wB.heap[k]? = w1.heap[k]? := fun k hk hn => (hgrowB.block k (by simp; omega) (Ne.symm hn)).trans ((Below.heap_alloc _ _ k (by omega)).trans (hA1 k hk))
      have hszB : w1.heap.size ≤ wB.heap.size := by have := hgrowB.size; simp at this; omega
      have hpl : ∀ k, pv.ownBlock = some k → k < w1.heap.size := fun k hk => (HM.out.prow.lt k hk).2
      have hvA : NetMem.Own wA 0 (.slice (some ⟨q1, 0, none⟩) 16 cap1) l := own_of_row (n := 16) (show wA.ownsRow 0 5 1 (.slice (some ⟨q1, 0, none⟩) 16 cap1) 16 (Lib.byteCells l) from hownA)
      have hvB : NetMem.Own wB w1.heap.size (.slice (some ⟨q1, 0, none⟩) 16 cap1) l := by
        refine Own.keep (w := wA) (own_up hvA fun k hk => ?_) (by have := hgrowB.size; simp at this; omega) fun k hk => ?_
        · have : q1 = k := by simpa [Value.ownBlock] using hk
          omega
        · have : q1 = k := by simpa [Value.ownBlock] using hk
          subst this
          exact (hgrowB.block q1 (by simp; omega) (fun e => by have := hpl q1 e.symm; omega)).trans (Below.heap_alloc _ _ q1 hltA)
      refine ⟨HM.out.push HH.out.2.2.2 hl16 q2 cap2 _ hownB hkW hszB (hatB.imp id fun h => by omega) hvB (fun k hk e => ?_), ?_, ?_, by have := HK0.out.size; omega⟩
      · have : q1 = k := by simpa [Value.ownBlock] using hk
        subst this
        rcases hatB with h | h
        · have := hpl q2 h; omega
        · omega
      · refine Kept.setCell ?_ (.inl (.inl rfl)) _
        refine ⟨?_, ?_, ?_, by have := HK0.out.size; omega, fun k hk hn => (hkW k (by have := HK0.out.size; omega) fun e => hn (.inr e)).trans (HK0.out.block k hk (fun h => h))⟩
        · exact hgrowB.os.trans (hgrowA.os.trans HK0.out.os)
        · exact hgrowB.tape.trans (hgrowA.tape.trans HK0.out.tape)
        · exact hgrowB.output.trans (hgrowA.output.trans HK0.out.output)
      · exact hatB.imp id fun h => by have := HK0.out.size; omega
    have HQ := Lib.hid hpush
    obtain ⟨W2, hW2⟩ : ∃ W2, W2 = wB.setCell ⟨g, 1, none⟩ (.slice (some ⟨q2, 0, none⟩) (ps.length + 1) cap2) := ⟨_, rfl⟩
    rw [← hW2] at HQ hpush ⊢
    obtain ⟨at2, lv2, ar2, hok2, hh2, -, -, -, -, d4, -, -, df⟩ := hpush.1.cells
    simp only at d4
    have f4 := df 4
    have n1 : (d.n : Int) ≤ 4611686018427387903 := by have := HP.out.1; omega
    have n0 : (0 : Int) ≤ (d.n : Int) := by omega
    have HX := Lib.hid (And.intro hok2 hh2)
    clear hpush hW2 hok2 hh2 df hk1 hkA hcA c1 c4 hB1 hB2 HOA HOB HNB HOBB HA HNA HLN HL1 HGA HF HI
    go_wp2_with fail
    go_ret
    refine ⟨rfl, q2, cap2, _, HQ.out.1.rehead (fun j hj => heap_setCell_ne _ _ _ _ hj) (by simp [World.setCell]) (fun j hj => put_fl d i l j) (put_len d i l) rfl ⟨at2, lv2, ar2, ?_, HX.out.1⟩, HQ.out.2.1.setCell (.inl (.inl rfl)) _, HQ.out.2.2.1, fun k hk => ?_⟩
    · rw [heap_set HX.out.2 _ _]
      rfl
    · have : q1 = k := by simpa [Value.ownBlock] using hk
      have := HQ.out.2.2.2
      omega
end
end Go.Proofs.Ytffjdpkgcgdfdaa
