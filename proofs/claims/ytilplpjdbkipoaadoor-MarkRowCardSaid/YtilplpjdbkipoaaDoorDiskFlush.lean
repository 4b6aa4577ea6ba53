/-
  Proved: Flush: what is pending is on the disk, in order; or the disk crashes; or it is down already. Conditions: the disk lies in memory; so many operations were not yet that their number would wrap.
-/
import Derived.Test.YtilplpjdbkipoaaDoorDiskCrash
namespace Go.Proofs.YtilplpjdbkipoaaDoor
open Go Go.RowKit DiskMath NetMem

/-- A round of the flush, done. -/
theorem flush_round {wr : World} {g s : Nat} {pv lv : Value} {d : Dk} {k : Nat} {i : Nat} {b : List UInt8} (hlt : k < d.p.length) (hx : (i, b) = d.p[k]) (h : DiskM wr g s pv lv { d with s := iter (flushR d.p) k d.s })
    (hi : i < (iter (flushR d.p) k d.s).length) (hb : b.length = 16) (W : World) (hW : Kept (fun _ => False) wr W) :
    DiskM (W.setCells s (i * 32) (Lib.byteCells b)) g s pv lv { d with s := iter (flushR d.p) (k + 1) d.s } := by
  have h1 := h.far hW fun _ _ hf => hf
  have hs := h1.secs.put1 i hi b hb
  have he : (iter (flushR d.p) k d.s).modify i (fun y => (b, y.2)) = iter (flushR d.p) (k + 1) d.s := by
    show _ = flushR d.p k (iter (flushR d.p) k d.s)
    unfold flushR
    rw [List.getElem?_eq_getElem hlt, ← hx]
  simp only at hs
  rw [he] at hs
  have hlen : (iter (flushR d.p) (k + 1) d.s).length = (iter (flushR d.p) k d.s).length := by rw [iter, flushR_length]
  have hbb : ∀ j, j ≠ s → (W.setCells s (i * 32) (Lib.byteCells b)).heap[j]? = W.heap[j]? := (setCells_same s _ _ _).2.2.2.2
  exact { head := by rw [hbb g h1.gs]; have := h1.head; unfold headV at this ⊢; simp only at this ⊢; rw [hlen]; exact this
          secs := hs
          pend := ownsRow_block h1.pend fun j hj => hbb j fun e => h1.ps (by rw [hj, e])
          pok := by have := h1.pok; simp only at this ⊢; rw [hlen]; exact this
          left := ownsRow_block h1.left fun j hj => hbb j fun e => h1.ls (by rw [hj, e])
          gs := h1.gs, pg := h1.pg, ps := h1.ps, lg := h1.lg, ls := h1.ls, lp := h1.lp }

def RelF (g s : Nat) (pv lv : Value) (d : Dk) (w : World) (i : Value) (wr : World) : Prop :=
  ∃ k : Nat, k ≤ d.p.length ∧ i = .int .i64 (k : Int) ∧ DiskM wr g s pv lv { d with s := iter (flushR d.p) k d.s } ∧ Kept (fun k => k = g ∨ k = s) w wr

theorem flush_down (g s : Nat) (pv lv : Value) (d : Dk) (w : World) (h : DiskM w g s pv lv d) (hd : d.down = true) :
    Calls Tryd.prog 52 #[.pointer (some ⟨g, 0, none⟩)] w fun e w' => e = .returned (.int .i64 5) ∧ w = w' := by
  have HD := Lib.hid (down_m g s pv lv d w h)
  rw [hd] at HD
  clear h hd
  go_enter Tryd.func52, Tryd.ntmps52
  go_wp2_with fail
  refine HD.out.mono ?_
  rintro e w1 ⟨rfl, rfl⟩
  go_wp2_with fail
  go_ret
  exact ⟨rfl, rfl⟩
theorem flush_nil (w : World) :
    Calls Tryd.prog 52 #[.pointer none] w fun e w' => e = .returned (.int .i64 5) ∧ w = w' := by
  go_enter Tryd.func52, Tryd.ntmps52
  go_wp2_with fail
  refine (down_nil w).mono ?_
  rintro e w1 ⟨rfl, rfl⟩
  go_wp2_with fail
  go_ret
  exact ⟨rfl, rfl⟩

set_option maxHeartbeats 1000000 in
theorem flush_hit (g s : Nat) (pv lv : Value) (d : Dk) (w : World) (h : DiskM w g s pv lv d) (hd : d.down = false) (hh : d.hits = true) :
    Calls Tryd.prog 52 #[.pointer (some ⟨g, 0, none⟩)] w fun e w' => e = .returned (.int .i64 5) ∧ DiskM w' g s (.slice none 0 0) (.slice none 0 0) d.crashed ∧ Kept (fun k => k = g ∨ k = s) w w' := by
  have HD := Lib.hid (down_m g s pv lv d w h)
  rw [hd] at HD
  have HC := Lib.hid (crashes_hit g s pv lv d w h hh)
  clear h hd hh
  go_enter Tryd.func52, Tryd.ntmps52
  go_wp2_with fail
  refine HD.out.mono ?_
  rintro e w1 ⟨rfl, rfl⟩
  go_wp2_with fail
  refine HC.out.mono ?_
  rintro e w1 ⟨rfl, h1, h2⟩
  have H1 := Lib.hid (And.intro h1 h2)
  clear h1 h2
  go_wp2_with fail
  go_ret
  exact ⟨rfl, H1.out.1, H1.out.2⟩

set_option maxHeartbeats 4000000 in
set_option maxRecDepth 100000 in
theorem flush_go (g s : Nat) (pv lv : Value) (d : Dk) (w : World) (h : DiskM w g s pv lv d) (hd : d.down = false) (hh : d.hits = false) (hn : d.n < 4611686018427387904) :
    Calls Tryd.prog 52 #[.pointer (some ⟨g, 0, none⟩)] w fun e w' => e = .returned (.int .i64 0) ∧ DiskM w' g s (.slice none 0 0) lv d.flushed ∧ Kept (fun k => k = g ∨ k = s) w w' := by
  obtain ⟨a, c, rfl, hm, -⟩ := h.pend_at
  unfold maxLen at hm
  have HDN := Lib.hid (down_m g s _ lv d w h)
  rw [hd] at HDN
  have HCR := Lib.hid (crashes_not g s _ lv d w h hh)
  have HD := Lib.hid h
  clear h hd hh
  go_enter Tryd.func52, Tryd.ntmps52
  go_wp2_with fail
  refine HDN.out.mono ?_
  rintro e w1 ⟨rfl, rfl⟩
  go_wp2_with fail
  refine HCR.out.mono ?_
  rintro e w0 ⟨rfl, hk0⟩
  have hd0 := HD.out.far hk0 fun _ _ h => h
  obtain ⟨-, c1, -⟩ := hd0.cells
  have HD0 := Lib.hid hd0
  have HK0 := Lib.hid (show Kept (fun k => k = g ∨ k = s) w w0 from hk0.mono fun _ _ h => h.elim)
  clear hd0 hk0
  go_wp2_with fail
  go_loopw [16] (fun i wr => RelF g s (.slice a d.p.length c) lv d w i wr) (fun i _ => d.p.length - (intOf i).toNat)
  case atStart => exact ⟨0, by omega, rfl, HD0.out, HK0.out⟩
  case round =>
    clear c1
    obtain ⟨k, hk, rfl, hdk, hkw⟩ := hrel
    by_cases hlt : k < d.p.length
    · obtain ⟨a', c', hv, -, hp⟩ := hdk.pend_at
      simp only [Value.slice.injEq] at hv
      obtain ⟨rfl, -, rfl⟩ := hv
      obtain ⟨q, rfl, hqg, hqs, hql, hr⟩ := hp k hlt
      obtain ⟨c0, -⟩ := hdk.cells
      obtain ⟨x, hx⟩ : ∃ x, x = d.p[k] := ⟨_, rfl⟩
      obtain ⟨L, hL⟩ : ∃ L, L = iter (flushR d.p) k d.s := ⟨_, rfl⟩
      have hok := hdk.pok d.p[k] (List.getElem_mem hlt)
      have hsec := hdk.secs
      simp only at hr hok hsec c0
      rw [← hx] at hr hok
      rw [← hL] at hok hsec c0
      obtain ⟨i, b⟩ := x
      simp only at hok
      obtain ⟨hi, hb⟩ := hok
      have hwl : (wcells (i, b)).length = 17 := wcells_length hb
      have h51 : (Tryd.prog.info? 92).map (·.size) = some (wcells (i, b)).length := by rw [sizeWrite, hwl]
      have h51b : (Tryd.prog.info? 92).map (·.size) = some (wcells (i, b)).toArray.size := by rw [sizeWrite, List.size_toArray, hwl]
      obtain ⟨cs, hcs⟩ : ∃ cs, cs = Lib.byteCells b := ⟨_, rfl⟩
      have hcl : cs.length = 16 := by rw [hcs, bl, hb]
      have hc1 : ∀ v ∈ cs, v.oneCell' = true := by rw [hcs]; exact oneCell_bytes _
      have h49 := Tryd.underlying90
      have h49s : (Tryd.prog.info? 90).map (·.size) = some cs.length := by rw [sizeContent, hcl]
      have hHs : wr.heap.size ≠ s := by have := hsec.2.2.2.2.lt; omega
      have hgs := hdk.gs
      have HR := Lib.hid hr
      have HI := Lib.hid (And.intro h51 (And.intro h51b (show zeroW.size = (wcells (i, b)).toArray.size from (show 17 = (wcells (i, b)).toArray.size by rw [List.size_toArray, hwl]))))
      have HX := Lib.hid (And.intro hx (And.intro hL (And.intro hi (And.intro hb hcs))))
      have HK := Lib.hid hkw
      have HDK := Lib.hid hdk
      obtain ⟨W1, hW1⟩ : ∃ W1, W1 = wr.alloc (.cells (wcells (i, b)).toArray 92) := ⟨_, rfl⟩
      have HS := Lib.hid (show tearS g s L.length wr.heap.size (i : Int) (i * 32) cs W1.drew by
        rw [hW1]
        refine tearS.drew ⟨(World.cell?_alloc_lt _ _ _ hdk.glt).trans c0, by rw [new_cell]; rfl, fun j v hv => ?_, World.there_alloc (there_part hsec.2.1 16 (by omega)) _⟩
        rw [hcs] at hv
        rw [new_cell]
        simp only [wcells, List.getElem?_toArray]
        rw [Nat.add_comm, List.getElem?_cons_succ]; exact hv)
      have HG := Lib.hid (fun (W : World) (h : tearS g s L.length wr.heap.size (i : Int) (i * 32) cs W) => h.store hgs hHs cs)
      have hi0 : (0 : Int) ≤ (i : Int) := by omega
      have hi1 : (i : Int) < (L.length : Int) := by omega
      have HW1 := Lib.hid hW1
      clear hx hL hkw hdk hp hr hsec h51 h51b hwl hcs hgs hHs hW1 hqg hqs hql c0
      go_wp2_with (first | (refine wpList_load_mid (by rfl) 92 (.tmp 18) (by rfl) q (k * 17) (by rfl) (wcells (i, b)) _ HR.out Tryd.underlying92 (by rfl) HI.out.1 ?_) | (refine wpList_store_new (by rfl) 92 (.tmp 4) (.tmp 19) (by rfl) wr zeroW (wcells (i, b)).toArray (by rfl) (by rfl) (by rfl) HI.out.2.1 HI.out.2.2 (all_wcells (i, b)) ?_))
      rw [← HW1.out]
      go_region_held3 (fun W => W.cell? ⟨g, 0, none⟩ = some (.slice (some ⟨s, 0, none⟩) L.length L.length) ∧ W.cell? ⟨wr.heap.size, 0, none⟩ = some (.int .i64 (i : Int)) ∧ W.rangeAt wr.heap.size 1 cs ∧ W.there s (i * 32) 16) (first | assumption | exact HS.out | exact HG.out _ (by assumption)) (fail)
      have HF := Lib.hid (show DiskM (W1.drew.setCells s (i * 32) cs) g s (.slice (some ⟨q, 0, none⟩) d.p.length c) lv { d with s := iter (flushR d.p) (k + 1) d.s } from by
        obtain ⟨hx, hL, hi, hb, hcs⟩ := HX.out
        have hi' : i < (iter (flushR d.p) k d.s).length := by rw [← hL]; exact hi
        have := flush_round hlt hx HDK.out hi' hb W1.drew (by rw [HW1.out]; exact ((Kept.refl _ wr).alloc _).drew)
        rw [hcs]; exact this)
      have HE := Lib.hid (show Kept (fun k => k = g ∨ k = s) w (W1.drew.setCells s (i * 32) cs) from (show Kept (fun k => k = g ∨ k = s) w W1.drew by rw [HW1.out]; exact (HK.out.alloc _).drew).setCells (.inl (.inr rfl)) _ _)
      go_wp2_with fail
      exact ⟨⟨k + 1, by omega, by go_num, HF.out, HE.out⟩, by simp [intOf]; omega⟩
    · obtain rfl : k = d.p.length := by omega
      obtain ⟨-, c1, c2, -, -, -, -, cf⟩ := hdk.cells
      simp only at c2
      have f1 := cf 1
      have f2 := cf 2
      have HK := Lib.hid hkw
      have HDK := Lib.hid hdk
      clear hdk hkw cf
      go_wp2_with fail
      go_ret
      refine ⟨rfl, HDK.out.forget.turn 2 _ d.flushed rfl rfl rfl ?_, (HK.out.setCell (.inl (.inl rfl)) _).setCell (.inl (.inl rfl)) _⟩
      rfl
end Go.Proofs.YtilplpjdbkipoaaDoor
