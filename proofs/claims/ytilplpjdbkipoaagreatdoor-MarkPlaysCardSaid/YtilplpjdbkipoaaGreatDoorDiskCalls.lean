/-
  Proved: texts joined: Proved: crashes crashes the disk, if its next operation is to be none: of each pending write so many bytes are left as the crash says. Conditions: the disk lies in memory.
  Proved: Read, Restart, New: a sector's bytes are new memory; a disk started anew; a new disk. Conditions: the disk lies in memory.
  Proved: New: a disk of so many sectors, all of them 0. No conditions but the number of sectors.
  Proved: Arm: the disk is to crash, and what it then leaves is a copy of what was handed in. Conditions: the disk lies in memory; what is handed in can be read.
  Proved: Flush: what is pending is on the disk, in order; or the disk crashes; or it is down already. Conditions: the disk lies in memory; so many operations were not yet that their number would wrap.
  Proved: Write: a sector's bytes are pending; or the disk crashes; or the write is refused. Conditions: the disk lies in memory, the bytes can be read; so many writes and operations were not yet that their number would wrap.
-/
import Derived.Test.YtilplpjdbkipoaaGreatDoorDiskDrop
import Derived.Test.YtilplpjdbkipoaaGreatDoorDiskAsk
import Derived.BigQuiet
import Derived.Deep.RegionLaw
namespace Go.Proofs.YtilplpjdbkipoaaGreatDoor
open Go Go.RowKit DiskMath NetMem

theorem rangeAt_append {w : World} {b o : Nat} {xs ys : List Value} (h1 : w.rangeAt b o xs) (h2 : w.rangeAt b (o + xs.length) ys) : w.rangeAt b o (xs ++ ys) := fun j v hv => by
  rcases Nat.lt_or_ge j xs.length with h | h
  · rw [List.getElem?_append_left h] at hv; exact h1 j v hv
  · rw [List.getElem?_append_right h] at hv
    have := h2 (j - xs.length) v hv
    rwa [show o + xs.length + (j - xs.length) = o + j by omega] at this
theorem rangeAt_drop {w : World} {b o : Nat} {xs : List Value} (h : w.rangeAt b o xs) (k : Nat) : w.rangeAt b (o + k) (xs.drop k) := fun j v hv => by
  rw [List.getElem?_drop] at hv
  have := h (k + j) v hv
  rwa [← Nat.add_assoc] at this
theorem bc_append (a b : List UInt8) : Lib.byteCells (a ++ b) = Lib.byteCells a ++ Lib.byteCells b := by simp [Lib.byteCells]
theorem bc_drop (a : List UInt8) (k : Nat) : Lib.byteCells (a.drop k) = (Lib.byteCells a).drop k := by simp [Lib.byteCells]

/-- The first k bytes of sector i are written. -/
theorem SecAt.tear {w : World} {s : Nat} {l : Secs} (h : SecAt w s l) (i : Nat) (hi : i < l.length) (b : List UInt8) (hb : b.length = 16) (k : Nat) (hk : k ≤ 16) :
    SecAt (w.setCells s (i * 32) (Lib.byteCells (b.take k))) s (l.modify i fun y => (b.take k ++ y.1.drop k, y.2)) := by
  obtain ⟨h1, h2, h3, h4, h5⟩ := h
  have htk : (b.take k).length = k := by rw [List.length_take]; omega
  have ht : w.there s (i * 32) (Lib.byteCells (b.take k)).length := there_part h2 _ (by rw [bl, htk]; omega)
  refine ⟨fun j hj => ?_, ?_, fun x hx => ?_, by simpa using h4, h5.setCells s _ _⟩
  · rw [List.length_modify] at hj
    have hl := h3 _ (List.getElem_mem hj)
    rw [List.getElem_modify]
    by_cases e : i = j
    · subst e
      rw [if_pos rfl]
      refine ⟨?_, World.rangeAt_setCells_apart (h1 i hj).2 _ _ _ (by rw [bl, bl, htk]; omega)⟩
      show World.rangeAt _ s (i * 32) (Lib.byteCells (b.take k ++ (l[i].1).drop k))
      rw [bc_append]
      refine rangeAt_append (World.rangeAt_setCells_same _ _ _ _ ht) ?_
      rw [bl, htk, bc_drop]
      refine World.rangeAt_setCells_apart (rangeAt_drop (h1 i hj).1 k) _ _ _ (by rw [bl, htk]; omega)
    · rw [if_neg e]
      exact ⟨World.rangeAt_setCells_apart (h1 j hj).1 _ _ _ (by rw [bl, bl, htk, hl.1]; omega), World.rangeAt_setCells_apart (h1 j hj).2 _ _ _ (by rw [bl, bl, htk, hl.2]; omega)⟩
  · rw [List.length_modify]; exact World.there_setCells h2 _ _ _
  · obtain ⟨j, hj, rfl⟩ := List.getElem_of_mem hx
    rw [List.length_modify] at hj
    rw [List.getElem_modify]
    have hl := h3 _ (List.getElem_mem hj)
    split
    · exact ⟨torn_length hb hl.1 hk, hl.2⟩
    · exact hl

/-- What the round of the crash's loop holds. -/
def tearS (g s N H : Nat) (i : Int) (o : Nat) (cs : List Value) (W : World) : Prop :=
  W.cell? ⟨g, 0, none⟩ = some (.slice (some ⟨s, 0, none⟩) N N) ∧ W.cell? ⟨H, 0, none⟩ = some (.int .i64 i) ∧ W.rangeAt H 1 cs ∧ W.there s o 16
theorem tearS.store {g s N H : Nat} {i : Int} {o : Nat} {cs : List Value} {W : World} (h : tearS g s N H i o cs W) (hg : g ≠ s) (hH : H ≠ s) (ds : List Value) : tearS g s N H i o cs (W.setCells s o ds) :=
  ⟨by rw [World.cell?_setCells_out s ds o W _ (fun e => absurd e hg)]; exact h.1, by rw [World.cell?_setCells_out s ds o W _ (fun e => absurd e hH)]; exact h.2.1,
    World.rangeAt_setCells_apart h.2.2.1 _ _ _ (.inl hH), World.there_setCells h.2.2.2 _ _ _⟩
theorem tearS.drew {g s N H : Nat} {i : Int} {o : Nat} {cs : List Value} {W : World} (h : tearS g s N H i o cs W) : tearS g s N H i o cs W.drew := by
  unfold tearS at h ⊢
  simpa using h

/-- A round of the crash, done. -/
theorem tear_round {wr : World} {g s : Nat} {pv lv : Value} {d : Dk} {k : Nat} {i : Nat} {b : List UInt8} (hlt : k < d.p.length) (hx : (i, b) = d.p[k]) (h : DiskM wr g s pv lv { d with s := iter (crashR d.left d.p) k d.s })
    (hi : i < (iter (crashR d.left d.p) k d.s).length) (hb : b.length = 16) (W : World) (hW : Kept (fun _ => False) wr W) :
    DiskM (W.setCells s (i * 32) (Lib.byteCells (b.take (keepOf d.left k)))) g s pv lv { d with s := iter (crashR d.left d.p) (k + 1) d.s } := by
  have h1 := h.far hW fun _ _ hf => hf
  have hs := h1.secs.tear i hi b hb (keepOf d.left k) (keepOf_le _ _)
  have he : (iter (crashR d.left d.p) k d.s).modify i (fun y => (b.take (keepOf d.left k) ++ y.1.drop (keepOf d.left k), y.2)) = iter (crashR d.left d.p) (k + 1) d.s := by
    show _ = crashR d.left d.p k (iter (crashR d.left d.p) k d.s)
    unfold crashR
    rw [List.getElem?_eq_getElem hlt, ← hx]
  simp only at hs
  rw [he] at hs
  have hlen : (iter (crashR d.left d.p) (k + 1) d.s).length = (iter (crashR d.left d.p) k d.s).length := by rw [iter, crashR_length]
  have hbb : ∀ j, j ≠ s → (W.setCells s (i * 32) (Lib.byteCells (b.take (keepOf d.left k)))).heap[j]? = W.heap[j]? := (setCells_same s _ _ _).2.2.2.2
  exact { head := by rw [hbb g h1.gs]; have := h1.head; unfold headV at this ⊢; simp only at this ⊢; rw [hlen]; exact this
          secs := hs
          pend := ownsRow_block h1.pend fun j hj => hbb j fun e => h1.ps (by rw [hj, e])
          pok := by have := h1.pok; simp only at this ⊢; rw [hlen]; exact this
          left := ownsRow_block h1.left fun j hj => hbb j fun e => h1.ls (by rw [hj, e])
          gs := h1.gs, pg := h1.pg, ps := h1.ps, lg := h1.lg, ls := h1.ls, lp := h1.lp }

def RelC (g s : Nat) (pv lv : Value) (d : Dk) (w : World) (i : Value) (wr : World) : Prop :=
  ∃ k : Nat, k ≤ d.p.length ∧ i = .int .i64 (k : Int) ∧ DiskM wr g s pv lv { d with s := iter (crashR d.left d.p) k d.s } ∧ Kept (fun k => k = g ∨ k = s) w wr

set_option maxHeartbeats 2000000 in
set_option maxRecDepth 100000 in
theorem crashes_not (g s : Nat) (pv lv : Value) (d : Dk) (w : World) (h : DiskM w g s pv lv d) (hh : d.hits = false) :
    Calls Tryz.prog 68 #[.pointer (some ⟨g, 0, none⟩)] w fun e w' => e = .returned (.bool false) ∧ Kept (fun _ => False) w w' := by
  obtain ⟨-, -, c2, c3, c4, -⟩ := h.cells
  clear h
  unfold Dk.hits at hh
  obtain ⟨at_, hat⟩ : ∃ z, z = d.at_ := ⟨_, rfl⟩
  obtain ⟨n, hn⟩ : ∃ z : Int, z = (d.n : Int) := ⟨_, rfl⟩
  obtain ⟨am, ham⟩ : ∃ z, z = d.armed := ⟨_, rfl⟩
  rw [← hat, ← hn, ← ham] at hh
  rw [← hat] at c4
  rw [← hn] at c2
  rw [← ham] at c3
  clear hat hn ham
  cases am
  · clear hh
    go_enter Tryz.func68, Tryz.ntmps68
    go_wp2_with fail
    go_quiet (fail)
    go_wp2_with fail
    go_ret
    exact ⟨rfl, rfl, rfl, rfl, Nat.le_refl _, fun _ _ _ => rfl⟩
  · have hlt : n < at_ := by simpa using hh
    clear hh
    go_enter Tryz.func68, Tryz.ntmps68
    go_wp2_with fail
    go_quiet (fail)
    go_wp2_with fail
    go_ret
    exact ⟨rfl, rfl, rfl, rfl, Nat.le_refl _, fun _ _ _ => rfl⟩

/-- The crash's last step. -/
theorem DiskM.downed {w : World} {g s : Nat} {pv lv : Value} {d : Dk} (h : DiskM w g s pv lv d) : DiskM (w.setCell ⟨g, 6, none⟩ (.bool true)) g s pv lv { d with down := true } :=
  h.turn 6 (.bool true) { d with down := true } rfl rfl rfl rfl

set_option maxHeartbeats 4000000 in
set_option maxRecDepth 100000 in
theorem crashes_hit (g s : Nat) (pv lv : Value) (d : Dk) (w : World) (h : DiskM w g s pv lv d) (hh : d.hits = true) :
    Calls Tryz.prog 68 #[.pointer (some ⟨g, 0, none⟩)] w fun e w' => e = .returned (.bool true) ∧ DiskM w' g s (.slice none 0 0) (.slice none 0 0) d.crashed ∧ Kept (fun k => k = g ∨ k = s) w w' := by
  obtain ⟨-, c1, c2, c3, c4, -⟩ := h.cells
  obtain ⟨a, c, rfl, hm, -⟩ := h.pend_at
  unfold maxLen at hm
  have HD := Lib.hid h
  clear h
  unfold Dk.hits at hh
  obtain ⟨at_, hat⟩ : ∃ z, z = d.at_ := ⟨_, rfl⟩
  obtain ⟨n, hn⟩ : ∃ z : Int, z = (d.n : Int) := ⟨_, rfl⟩
  obtain ⟨am, ham⟩ : ∃ z, z = d.armed := ⟨_, rfl⟩
  rw [← hat, ← hn, ← ham] at hh
  rw [← hat] at c4
  rw [← hn] at c2
  rw [← ham] at c3
  clear hat hn ham
  obtain ⟨rfl, hge⟩ : am = true ∧ at_ ≤ n := by simpa using hh
  clear hh
  go_enter Tryz.func68, Tryz.ntmps68
  go_wp2_with fail
  go_quiet (fail)
  go_wp2_with fail
  go_loopw [28] (fun i wr => RelC g s (.slice a d.p.length c) lv d w i wr) (fun i _ => d.p.length - (intOf i).toNat)
  case atStart => exact ⟨0, by omega, rfl, HD.out.far (D := fun _ => False) ⟨rfl, rfl, rfl, Nat.le_refl _, fun _ _ _ => rfl⟩ (fun _ _ h => h), ⟨rfl, rfl, rfl, Nat.le_refl _, fun _ _ _ => rfl⟩⟩
  case round =>
    clear c1 c2 c3 c4 hge
    obtain ⟨k, hk, rfl, hdk, hkw⟩ := hrel
    by_cases hlt : k < d.p.length
    · obtain ⟨a', c', hv, -, hp⟩ := hdk.pend_at
      simp only [Value.slice.injEq] at hv
      obtain ⟨rfl, -, rfl⟩ := hv
      obtain ⟨q, rfl, hqg, hqs, hql, hr⟩ := hp k hlt
      obtain ⟨c0, -⟩ := hdk.cells
      obtain ⟨x, hx⟩ : ∃ x, x = d.p[k] := ⟨_, rfl⟩
      obtain ⟨L, hL⟩ : ∃ L, L = iter (crashR d.left d.p) k d.s := ⟨_, rfl⟩
      have hok := hdk.pok d.p[k] (List.getElem_mem hlt)
      have hsec := hdk.secs
      simp only at hr hok hsec c0
      rw [← hx] at hr hok
      rw [← hL] at hok hsec c0
      obtain ⟨i, b⟩ := x
      simp only at hok
      obtain ⟨hi, hb⟩ := hok
      have hwl : (wcells (i, b)).length = 17 := wcells_length hb
      have h51 : (Tryz.prog.info? 89).map (·.size) = some (wcells (i, b)).length := by rw [sizeWrite, hwl]
      have h51b : (Tryz.prog.info? 89).map (·.size) = some (wcells (i, b)).toArray.size := by rw [sizeWrite, List.size_toArray, hwl]
      obtain ⟨cs, hcs⟩ : ∃ cs, cs = Lib.byteCells b := ⟨_, rfl⟩
      obtain ⟨kp, hkp⟩ : ∃ kp, kp = keepOf d.left k := ⟨_, rfl⟩
      have hkl : kp ≤ 16 := by rw [hkp]; exact keepOf_le _ _
      obtain ⟨ds, hds⟩ : ∃ ds, ds = Lib.byteCells (b.take kp) := ⟨_, rfl⟩
      have hHs : wr.heap.size ≠ s := by have := hsec.2.2.2.2.lt; omega
      have hgs := hdk.gs
      have HR := Lib.hid hr
      have HI := Lib.hid (And.intro h51 (And.intro h51b (show zeroW.size = (wcells (i, b)).toArray.size from (show 17 = (wcells (i, b)).toArray.size by rw [List.size_toArray, hwl]))))
      have HX := Lib.hid (And.intro hx (And.intro hL (And.intro hi hb)))
      have HW := Lib.hid (And.intro hcs (And.intro hkp hds))
      have HK := Lib.hid hkw
      have HDK := Lib.hid hdk
      obtain ⟨W1, hW1⟩ : ∃ W1, W1 = wr.alloc (.cells (wcells (i, b)).toArray 89) := ⟨_, rfl⟩
      have HKP := Lib.hid (show Calls Tryz.prog 83 #[.pointer (some ⟨g, 0, none⟩), .int .i64 (k : Int)] W1 fun e w' => e = .returned (.int .i64 (kp : Int)) ∧ W1 = w' by
        have h1 := hdk.far ((Kept.refl (fun _ => False) wr).alloc (.cells (wcells (i, b)).toArray 89)) (fun _ _ h => h)
        rw [← hW1] at h1
        rw [hkp]
        exact keep_m g s _ _ { d with s := iter (crashR d.left d.p) k d.s } k W1 h1)
      have HS := Lib.hid (show tearS g s L.length wr.heap.size (i : Int) (i * 32) cs W1.drew by
        rw [hW1]
        refine tearS.drew ⟨(World.cell?_alloc_lt _ _ _ hdk.glt).trans c0, by rw [new_cell]; rfl, fun j v hv => ?_, World.there_alloc (there_part hsec.2.1 16 (by omega)) _⟩
        rw [hcs] at hv
        rw [new_cell]
        simp only [wcells, List.getElem?_toArray]
        rw [Nat.add_comm, List.getElem?_cons_succ]; exact hv)
      have HG := Lib.hid (fun (W : World) (h : tearS g s L.length wr.heap.size (i : Int) (i * 32) cs W) => h.store hgs hHs ds)
      have HC := Lib.hid (And.intro (show ds.length = Nat.min 16 kp by rw [hds, bl, List.length_take, hb]; show min kp 16 = min 16 kp; omega) (And.intro (show ∀ v ∈ ds, v.oneCell' = true by rw [hds]; exact oneCell_bytes _)
        (show ∀ (W : World), tearS g s L.length wr.heap.size (i : Int) (i * 32) cs W → (∀ j v, ds[j]? = some v → W.cell? ((⟨wr.heap.size, 1, none⟩ : Addr).add j) = some v) ∧ W.there s (i * 32) ds.length from fun W hS => ⟨fun j v hv => by
            rw [Lib.add_plain]
            refine hS.2.2.1 j v ?_
            rw [hcs]
            have hj : j < ds.length := (List.getElem?_eq_some_iff.1 hv).1
            rw [hds, bl, List.length_take] at hj
            rw [hds] at hv
            simp only [Lib.byteCells, List.getElem?_map, List.getElem?_take] at hv ⊢
            rw [if_pos (by omega)] at hv
            exact hv, fun j hj => hS.2.2.2 j (by rw [hds, bl, List.length_take, hb] at hj; omega)⟩)))
      have hi0 : (0 : Int) ≤ (i : Int) := by omega
      have hi1 : (i : Int) < (L.length : Int) := by omega
      have hk0 : (0 : Int) ≤ (kp : Int) := by omega
      have hk1 : (kp : Int) ≤ (16 : Int) := by omega
      have HW1 := Lib.hid hW1
      clear hx hL hkw hdk hp hr hsec h51 h51b hwl hcs hgs hHs hkp hds hW1 hqg hqs hql c0
      go_wp2_with (first | (refine wpList_load_mid (by rfl) 89 (.tmp 31) (by rfl) q (k * 17) (by rfl) (wcells (i, b)) _ HR.out Tryz.underlying89 (by rfl) HI.out.1 ?_) | (refine wpList_store_new (by rfl) 89 (.tmp 4) (.tmp 32) (by rfl) wr zeroW (wcells (i, b)).toArray (by rfl) (by rfl) (by rfl) HI.out.2.1 HI.out.2.2 (all_wcells (i, b)) ?_))
      rw [← HW1.out]
      refine HKP.out.mono ?_
      rintro e w1 ⟨rfl, rfl⟩
      go_wp2_with fail
      go_region_held3 (fun W => W.cell? ⟨g, 0, none⟩ = some (.slice (some ⟨s, 0, none⟩) L.length L.length) ∧ W.cell? ⟨wr.heap.size, 0, none⟩ = some (.int .i64 (i : Int)) ∧ W.rangeAt wr.heap.size 1 cs ∧ W.there s (i * 32) 16) (first | assumption | exact HS.out | exact HG.out _ (by assumption))
        ((refine step_copy_cells (by rfl) (.tmp 45) (.tmp 47) 56 56 (by rfl) 5 Tryz.underlying56 sizeByte s (i * 32) kp 16 ⟨wr.heap.size, 1, none⟩ 16 16 (by rfl) (by rfl) ds HC.out.1 (HC.out.2.2 _ (by assumption)).1 (HC.out.2.2 _ (by assumption)).2 HC.out.2.1 ?_))
      have HF := Lib.hid (show DiskM (W1.drew.setCells s (i * 32) ds) g s (.slice (some ⟨q, 0, none⟩) d.p.length c) lv { d with s := iter (crashR d.left d.p) (k + 1) d.s } from by
        obtain ⟨hx, hL, hi, hb⟩ := HX.out
        obtain ⟨hcs, hkp, hds⟩ := HW.out
        have hi' : i < (iter (crashR d.left d.p) k d.s).length := by rw [← hL]; exact hi
        have := tear_round hlt hx HDK.out hi' hb W1.drew (by rw [HW1.out]; exact ((Kept.refl _ wr).alloc _).drew)
        rw [hds, hkp]; exact this)
      have HE := Lib.hid (show Kept (fun k => k = g ∨ k = s) w (W1.drew.setCells s (i * 32) ds) from (show Kept (fun k => k = g ∨ k = s) w W1.drew by rw [HW1.out]; exact (HK.out.alloc _).drew).setCells (.inl (.inr rfl)) _ _)
      go_wp2_with fail
      exact ⟨⟨k + 1, by omega, by go_num, HF.out, HE.out⟩, by simp [intOf]; omega⟩
    · obtain rfl : k = d.p.length := by omega
      have HK := Lib.hid hkw
      have HDR := Lib.hid (drop_m g s _ lv d.torn wr hdk)
      clear hdk hkw
      go_wp2_with fail
      refine HDR.out.mono ?_
      rintro e w1 ⟨rfl, hd1, hk1⟩
      have HA := Lib.hid (disarm_m g s _ lv _ w1 hd1)
      have HD1 := Lib.hid hd1.disarmed
      have HK1 := Lib.hid (HK.out.trans hk1 fun _ h => .inl h)
      clear hd1 hk1
      go_wp2_with fail
      refine HA.out.mono ?_
      rintro e w2 ⟨rfl, rfl⟩
      obtain ⟨w2, hw2⟩ : ∃ w2, w2 = ((w1.setCell ⟨g, 3, none⟩ (.bool false)).setCell ⟨g, 4, none⟩ (.int .i64 0)).setCell ⟨g, 5, none⟩ (.slice none 0 0) := ⟨_, rfl⟩
      have HK2 := Lib.hid (show Kept (fun k => k = g ∨ k = s) w w2 from by rw [hw2]; exact ((HK1.out.setCell (.inl (.inl rfl)) _).setCell (.inl (.inl rfl)) _).setCell (.inl (.inl rfl)) _)
      have hd2 := HD1.out
      rw [← hw2] at hd2 ⊢
      obtain ⟨-, -, -, -, -, -, c6, cf⟩ := hd2.cells
      have f6 := cf 6
      have HD2 := Lib.hid hd2.downed
      clear hd2 cf hw2 HD1 HA HDR
      go_wp2_with fail
      go_ret
      exact ⟨rfl, HD2.out, HK2.out.setCell (.inl (.inl rfl)) _⟩
end Go.Proofs.YtilplpjdbkipoaaGreatDoor

namespace Go.Proofs.YtilplpjdbkipoaaGreatDoor
open Go Go.RowKit DiskMath NetMem

theorem info5 : (Tryz.prog.info? 5).map (fun i => (i.zero, i.size, i.bytes)) = some (some (.int .u8 0), 1, 1) := by kernel_rfl

/-- slices.Clone of bytes that can be read. -/
theorem clone_bytes (p : Option Addr) (c : Nat) (l : List UInt8) (w : World) (h : Row w (.slice p l.length c) l) (hp : p ≠ none) (hm : l.length ≤ 1000000) :
    Calls Tryz.prog 86 #[.slice p l.length c] w fun e w' => ∃ v, e = .returned v ∧ Own w' w.heap.size v l ∧ Below w.heap.size w w' := by
  obtain ⟨i0, hi, hz0, hz1, hz2⟩ := info_parts info5
  obtain ⟨a, rfl⟩ := Option.ne_none_iff_exists'.1 hp
  have ho1 : Own (w.alloc (.cells #[] 5)) w.heap.size (.slice (some ⟨w.heap.size, 0, none⟩) 0 0) [] := Own.made w 5 [] 0 (by simp) (by simp [maxLen]) #[] rfl (fun j h => by simp at h) _ (Nat.le_refl _)
  have hb1 : Below w.heap.size w (w.alloc (.cells #[] 5)) := (Below.refl _ w).alloc (Nat.le_refl _) _
  have hsrc := Row.src (P := Tryz.prog) (h.below hb1) Tryz.underlying56
  have HO := Lib.hid (And.intro ho1 (And.intro hb1 hsrc))
  have q := fun (w : World) (a : Option Addr) (n c n' c' : Nat) => Lib.run_eql_slice_nil (P := Tryz.prog) w _ _ a n c n' c' Tryz.underlying56
  clear ho1 hb1 hsrc h hp
  go_enter Tryz.func86, Tryz.ntmps86
  go_wp2_with (at_builtin; refine wpList_append_bytes _ rfl _ _ 56 56 rfl 5 i0 Tryz.underlying56 hi hz0 hz1 hz2 w.heap.size _ _ rfl HO.out.1 _ l rfl HO.out.2.2 ?lim ?hB ?_)
  case lim => simp; omega
  case hB => exact HO.out.2.1.size
  intro v' w' ho3 hg3 hnil
  have HB := Lib.hid (And.intro ho3 (HO.out.2.1.grown hg3 HO.out.2.1.size (fun k hk => by simp [Value.ownBlock] at hk; omega)))
  clear ho3 hg3 hnil
  go_wp2_with fail
  go_ret
  exact ⟨_, rfl, by simpa using HB.out.1, HB.out.2⟩

theorem range_row {w : World} {b o : Nat} {l : List UInt8} (h : w.rangeAt b o (Lib.byteCells l)) (cap : Nat) (hc : l.length ≤ cap) (hm : cap ≤ 1000000) : Row w (.slice (some ⟨b, o, none⟩) l.length cap) l :=
  ⟨_, cap, rfl, hc, by unfold maxLen; omega, fun _ => ⟨b, o, rfl, fun i hi => h i _ (bc_at l i hi)⟩⟩

set_option maxHeartbeats 1000000 in
theorem read_in (g s : Nat) (pv lv : Value) (d : Dk) (i : Nat) (w : World) (h : DiskM w g s pv lv d) (hi : i < d.s.length) :
    Calls Tryz.prog 74 #[.pointer (some ⟨g, 0, none⟩), .int .i64 (i : Int)] w fun e w' => ∃ v, e = .returned v ∧ Own w' w.heap.size v d.s[i].2 ∧ Below w.heap.size w w' := by
  have HH := Lib.hid (has_m g s pv lv d i w h)
  rw [show d.has i = true by simp [Dk.has, hi]] at HH
  obtain ⟨c0, -⟩ := h.cells
  obtain ⟨l, hl⟩ : ∃ l, l = d.s[i].2 := ⟨_, rfl⟩
  have hl16 : l.length = 16 := by rw [hl]; exact (h.secs.2.2.1 _ (List.getElem_mem hi)).2
  have hr := range_row (h.secs.1 i hi).2 16 (by rw [← hl, hl16]; exact Nat.le_refl _) (by omega)
  rw [← hl] at hr ⊢
  have HC := Lib.hid (clone_bytes _ 16 l w hr (by simp) (by omega))
  rw [hl16] at HC
  have hi0 : (0 : Int) ≤ (i : Int) := by omega
  obtain ⟨N, hN⟩ : ∃ N, N = d.s.length := ⟨_, rfl⟩
  rw [← hN] at c0
  have hi1 : (i : Int) < (N : Int) := by omega
  clear hr hl h hl16 hN
  go_enter Tryz.func74, Tryz.ntmps74
  go_wp2_with fail
  refine HH.out.mono ?_
  rintro e w1 ⟨rfl, rfl⟩
  go_wp2_with fail
  refine HC.out.mono ?_
  rintro e w1 ⟨v, rfl, ho, hb⟩
  have HO := Lib.hid (And.intro ho hb)
  clear ho hb
  go_wp2_with fail
  go_ret
  exact ⟨_, rfl, HO.out.1, HO.out.2⟩
theorem read_out (g s : Nat) (pv lv : Value) (d : Dk) (i : Int) (w : World) (h : DiskM w g s pv lv d) (hi : d.has i = false) :
    Calls Tryz.prog 74 #[.pointer (some ⟨g, 0, none⟩), .int .i64 i] w fun e w' => e = .returned (.slice none 0 0) ∧ w = w' := by
  have HH := Lib.hid (has_m g s pv lv d i w h)
  rw [hi] at HH
  clear h hi
  go_enter Tryz.func74, Tryz.ntmps74
  go_wp2_with fail
  refine HH.out.mono ?_
  rintro e w1 ⟨rfl, rfl⟩
  go_wp2_with fail
  go_ret
  exact ⟨rfl, rfl⟩
theorem read_nil (i : Int) (w : World) :
    Calls Tryz.prog 74 #[.pointer none, .int .i64 i] w fun e w' => e = .returned (.slice none 0 0) ∧ w = w' := by
  go_enter Tryz.func74, Tryz.ntmps74
  go_wp2_with fail
  refine (has_nil i w).mono ?_
  rintro e w1 ⟨rfl, rfl⟩
  go_wp2_with fail
  go_ret
  exact ⟨rfl, rfl⟩

set_option maxHeartbeats 1000000 in
theorem restart_m (g s : Nat) (pv lv : Value) (d : Dk) (w : World) (h : DiskM w g s pv lv d) :
    Calls Tryz.prog 11 #[.pointer (some ⟨g, 0, none⟩)] w fun e w' => e = .returned (.tuple #[]) ∧ DiskM w' g s (.slice none 0 0) (.slice none 0 0) d.restart ∧ Kept (fun k => k = g ∨ k = s) w w' := by
  have HD := Lib.hid (drop_m g s pv lv d w h)
  clear h
  go_enter Tryz.func11, Tryz.ntmps11
  go_wp2_with fail
  refine HD.out.mono ?_
  rintro e w1 ⟨rfl, hd1, hk1⟩
  have HA := Lib.hid (disarm_m g s _ lv _ w1 hd1)
  have HD1 := Lib.hid hd1.disarmed
  have HK1 := Lib.hid hk1
  clear hd1 hk1
  go_wp2_with fail
  refine HA.out.mono ?_
  rintro e w2 ⟨rfl, rfl⟩
  obtain ⟨w2, hw2⟩ : ∃ w2, w2 = ((w1.setCell ⟨g, 3, none⟩ (.bool false)).setCell ⟨g, 4, none⟩ (.int .i64 0)).setCell ⟨g, 5, none⟩ (.slice none 0 0) := ⟨_, rfl⟩
  have HK2 := Lib.hid (show Kept (fun k => k = g ∨ k = s) w w2 from by rw [hw2]; exact ((HK1.out.setCell (.inl (.inl rfl)) _).setCell (.inl (.inl rfl)) _).setCell (.inl (.inl rfl)) _)
  have hd2 := HD1.out
  rw [← hw2] at hd2 ⊢
  obtain ⟨-, -, c2, -, -, -, c6, cf⟩ := hd2.cells
  have f6 := cf 6
  have f2 := cf 2
  have HD2 := Lib.hid hd2
  clear hd2 cf hw2 HD1 HA HD
  go_wp2_with fail
  go_end0
  refine ⟨rfl, ?_, (HK2.out.setCell (.inl (.inl rfl)) _).setCell (.inl (.inl rfl)) _⟩
  exact (HD2.out.turn 6 (.bool false) { d.drop.disarm with down := false } rfl rfl rfl rfl).turn 2 (.int .i64 0) d.restart rfl rfl rfl rfl
theorem restart_nil (w : World) :
    Calls Tryz.prog 11 #[.pointer none] w fun e w' => e = .returned (.tuple #[]) ∧ w = w' := by
  go_enter Tryz.func11, Tryz.ntmps11
  go_wp2_with fail
  refine bodyPost_ret (results_none rfl _ _ _) rfl ?_
  exact ⟨rfl, rfl⟩
end Go.Proofs.YtilplpjdbkipoaaGreatDoor

namespace Go.Proofs.YtilplpjdbkipoaaGreatDoor
open Go Go.RowKit DiskMath NetMem

/-- A sector's cells, as they are made. -/
def zeroS : Array Value := Array.replicate 32 (.int .u8 0)
theorem info53 : (Tryz.prog.info? 91).map (fun i => (i.zero, i.size, i.bytes)) = some (some (.agg zeroS), 32, 32) := by kernel_rfl

theorem made_at (n j : Nat) (h : j < n) : (madeCells zeroS n)[j]? = some (.int .u8 0) := by
  have hz : ∀ k, k < 32 → zeroS[k]! = .int .u8 0 := fun k hk => by simp [zeroS, hk]
  have h32 : zeroS.size = 32 := by simp [zeroS]
  simp [madeCells, h, h32]
  exact hz _ (Nat.mod_lt _ (by omega))

theorem made_range (w : World) (n : Nat) (e : TypeId) (o : Nat) (ho : o + 16 ≤ n) : (w.alloc (.cells (madeCells zeroS n) e)).rangeAt w.heap.size o (Lib.byteCells (List.replicate 16 0)) := fun j v hv => by
  rw [new_cell]
  have hj : j < 16 := by have := (List.getElem?_eq_some_iff.1 hv).1; simpa [bl] using this
  rw [made_at n _ (by omega)]
  rw [bc_at _ j (by simpa using hj)] at hv
  rw [← hv, List.getElem_replicate]
  rfl

theorem new_disk (w : World) (n : Nat) (hn : n ≤ 4000) :
    DiskM ((w.alloc (.cells (madeCells zeroS (n * 32)) 91)).alloc (.cells (headV w.heap.size (.slice none 0 0) (.slice none 0 0) (Dk.new n)) 51)) (w.heap.size + 1) w.heap.size (.slice none 0 0) (.slice none 0 0) (Dk.new n) := by
  refine { head := ?_, secs := ⟨fun i hi => ?_, fun j hj => ⟨?_, ?_⟩, fun x hx => ?_, by simpa [Dk.new] using hn, (Laid.new _ _ _).alloc _⟩, pend := World.ownsRow_nil _ _ _ _, pok := fun x hx => (by cases hx), left := World.ownsRow_nil _ _ _ _, gs := by omega, pg := by simp [Value.ownBlock], ps := by simp [Value.ownBlock], lg := by simp [Value.ownBlock], ls := by simp [Value.ownBlock], lp := fun k hk => by simp [Value.ownBlock] at hk }
  · have := heap_alloc_new (w.alloc (.cells (madeCells zeroS (n * 32)) 91)) (.cells (headV w.heap.size (.slice none 0 0) (.slice none 0 0) (Dk.new n)) 51)
    simpa using this
  · have hi' : i < n := by simpa [Dk.new] using hi
    have e : (Dk.new n).s[i] = (List.replicate 16 0, List.replicate 16 0) := by simp [Dk.new]
    rw [e]
    exact ⟨World.rangeAt_alloc (made_range w (n * 32) _ (i * 32) (by omega)) _, World.rangeAt_alloc (made_range w (n * 32) _ (i * 32 + 16) (by omega)) _⟩
  · have hj' : j < n * 32 := by simp [Dk.new] at hj; omega
    rw [World.cell?_alloc_lt _ _ _ (by simp), new_cell, Nat.zero_add, made_at _ _ hj']
    rfl
  · rw [World.frozen?_alloc_past _ _ _ (by simp), new_free]
  · have : x = (List.replicate 16 0, List.replicate 16 0) := by
      simp only [Dk.new, List.mem_replicate] at hx
      exact hx.2
    rw [this]
    simp

set_option maxHeartbeats 1000000 in
theorem new_in (n : Nat) (hn : n ≤ 4000) (w : World) :
    Calls Tryz.prog 4 #[.int .i64 (n : Int)] w fun e w' => ∃ g s, e = .returned (.pointer (some ⟨g, 0, none⟩)) ∧ DiskM w' g s (.slice none 0 0) (.slice none 0 0) (Dk.new n) ∧ w.heap.size ≤ g ∧ w.heap.size ≤ s ∧ Below w.heap.size w w' := by
  obtain ⟨i0, hi, hz0, hz1, hz2⟩ := info_parts info53
  have hmk : ∀ w : World, (Instr.makeSlice 48 (.int .i64 (n : Int)) (.int .i64 (n : Int))).run Tryz.prog w = .ok (.slice (some ⟨w.heap.size, 0, none⟩) n n) (w.alloc (.cells (madeCells zeroS (n * 32)) 91)) := fun w => by
    have := run_make (P := Tryz.prog) w 48 91 i0 (.agg zeroS) Tryz.underlying48 hi hz0 .i64 .i64 n n (by omega) (Int.le_refl _) (by rw [hz2]; omega) (by omega)
    simpa [hz1, Value.cells] using this
  have HN := Lib.hid (new_disk w n hn)
  clear hi hz0 hz1 hz2
  go_enter Tryz.func4, Tryz.ntmps4
  go_wp2_with fail
  go_ret
  refine ⟨w.heap.size + 1, w.heap.size, rfl, ?_, by omega, by omega, ((Below.refl _ w).alloc (Nat.le_refl _) _).alloc (by simp) _⟩
  have e : headV w.heap.size (.slice none 0 0) (.slice none 0 0) (Dk.new n) = #[.slice (some ⟨w.heap.size, 0, none⟩) n n, .slice none 0 0, .int .i64 0, .bool false, .int .i64 0, .slice none 0 0, .bool false] := by
    simp [headV, Dk.new]
  have h := HN.out
  rw [e] at h
  exact h
theorem new_out (n : Int) (hn : n < 0 ∨ 4000 < n) (w : World) :
    Calls Tryz.prog 4 #[.int .i64 n] w fun e w' => e = .returned (.pointer none) ∧ w = w' := by
  by_cases h : n < 0
  · go_enter Tryz.func4, Tryz.ntmps4
    go_wp2_with fail
    go_ret
    exact ⟨rfl, rfl⟩
  · have h4 : 4000 < n := by omega
    clear hn
    go_enter Tryz.func4, Tryz.ntmps4
    go_wp2_with fail
    go_ret
    exact ⟨rfl, rfl⟩
end Go.Proofs.YtilplpjdbkipoaaGreatDoor

namespace Go.Proofs.YtilplpjdbkipoaaGreatDoor
open Go Go.RowKit DiskMath NetMem

theorem info31 : (Tryz.prog.info? 59).map (fun i => (i.zero, i.size, i.bytes)) = some (some (.agg #[.int .i64 0]), 1, 8) := by kernel_rfl

/-- A row of choices that can be read. -/
def KeepsAt (w : World) (v : Value) (l : List Int) : Prop :=
  (v = .slice none 0 0 ∧ l = []) ∨ ∃ (a : Addr) (c : Nat), v = .slice (some a) l.length c ∧ ∀ k (h : k < l.length), w.cell? (a.add k) = some (.int .i64 l[k])

theorem KeepsAt.plain {w : World} (b o c : Nat) {l : List Int} (h : ∀ k (h : k < l.length), w.cell? ⟨b, o + k, none⟩ = some (.int .i64 l[k])) : KeepsAt w (.slice (some ⟨b, o, none⟩) l.length c) l :=
  .inr ⟨_, c, rfl, fun k hk => by rw [Lib.add_plain]; exact h k hk⟩
theorem KeepsAt.below {w w' : World} {v : Value} {l : List Int} (h : KeepsAt w v l) (hb : Below w.heap.size w w') : KeepsAt w' v l := by
  rcases h with h | ⟨a, c, rfl, hc⟩
  · exact .inl h
  · exact .inr ⟨a, c, rfl, fun k hk' => by rw [hb.cell (p := a.add k) (World.block_lt_of_cell? w _ (hc k hk'))]; exact hc k hk'⟩

theorem clone_none (w : World) :
    Calls Tryz.prog 18 #[.slice none 0 0] w fun e w' => e = .returned (.slice none 0 0) ∧ w = w' := by
  have q := fun (w : World) (a : Option Addr) (n c n' c' : Nat) => Lib.run_eql_slice_nil (P := Tryz.prog) w _ _ a n c n' c' Tryz.underlying24
  go_enter Tryz.func18, Tryz.ntmps18
  go_wp2_with fail
  go_ret
  exact ⟨rfl, rfl⟩

set_option maxHeartbeats 1000000 in
theorem clone_some (ad : Addr) (c : Nat) (l : List Int) (w : World) (hc : ∀ k (h : k < l.length), w.cell? (ad.add k) = some (.int .i64 l[k])) (hm : l.length ≤ 4294967296) :
    Calls Tryz.prog 18 #[.slice (some ad) l.length c] w fun e w' => ∃ v, e = .returned v ∧ w'.ownsRow w.heap.size 59 1 v l.length (l.map (Value.int .i64)) ∧ Below w.heap.size w w' := by
  obtain ⟨i0, hi, hz0, hz1, hz2⟩ := info_parts info31
  have q := fun (w : World) (a : Option Addr) (n c n' c' : Nat) => Lib.run_eql_slice_nil (P := Tryz.prog) w _ _ a n c n' c' Tryz.underlying24
  have HO := Lib.hid (World.ownsRow_made (e := 59) (size := 1) w #[] 0 (Nat.le_refl _) (by simp [maxLen]) rfl)
  have HN := Lib.hid (show ∀ j u, (l.map (Value.int .i64))[j]? = some u → (w.alloc (.cells #[] 59)).cell? (ad.add j) = some u from fun j u hu => by
    have hj : j < l.length := by have := (List.getElem?_eq_some_iff.1 hu).1; simpa using this
    have hcj := hc j hj
    rw [World.cell?_alloc_lt _ _ _ (World.block_lt_of_cell? w _ hcj), hcj, ← hu]
    simp [hj])
  have H1 := Lib.hid (show ∀ u ∈ l.map (Value.int .i64), u.oneCell' = true from fun u hu => by
    obtain ⟨x, -, rfl⟩ := List.mem_map.1 hu
    rfl)
  clear hc
  go_enter Tryz.func18, Tryz.ntmps18
  go_wp2_with (at_builtin; refine wpList_append_own _ rfl _ _ 24 rfl w.heap.size 59 i0 (.agg #[.int .i64 0]) 1 8 Tryz.underlying24 hi hz0 hz1 hz2 rfl (by decide) _ _ _ rfl HO.out ad l.length c (l.map (Value.int .i64)) rfl (by simp) HN.out H1.out ?c3 ?c4 ?c5 ?_)
  case c3 => unfold maxLen; omega
  case c4 => omega
  case c5 => simp
  intro v' w1 hown hgrow _
  have HB := Lib.hid (And.intro hown (((Below.refl w.heap.size w).alloc (Nat.le_refl _) _).grown hgrow (by simp) (fun k hk => by simp [Value.ownBlock] at hk; omega)))
  clear hown hgrow
  go_wp2_with fail
  go_ret
  exact ⟨_, rfl, by simpa using HB.out.1, HB.out.2⟩

/-- slices.Clone of choices, none or some. -/
theorem clone_keeps (v : Value) (l : List Int) (w : World) (h : KeepsAt w v l) (hm : l.length ≤ 4294967296) :
    Calls Tryz.prog 18 #[v] w fun e w' => ∃ v', e = .returned v' ∧ w'.ownsRow w.heap.size 59 1 v' l.length (l.map (Value.int .i64)) ∧ Below w.heap.size w w' := by
  rcases h with ⟨rfl, rfl⟩ | ⟨ad, c, rfl, hc⟩
  · exact (clone_none w).mono fun e w' ⟨he, hw⟩ => by subst hw; exact ⟨_, he, World.ownsRow_nil _ _ _ _, Below.refl _ _⟩
  · exact clone_some ad c l w hc hm

/-- The head of a disk that is armed. -/
theorem DiskM.arming {w w1 : World} {g s : Nat} {pv lv lv' : Value} {d : Dk} {l : List Int} (h : DiskM w g s pv lv d) (hb : Below w.heap.size w w1) (at_ : Int) (ho : w1.ownsRow w.heap.size 59 1 lv' l.length (l.map (Value.int .i64))) :
    DiskM (((w1.setCell ⟨g, 3, none⟩ (.bool true)).setCell ⟨g, 4, none⟩ (.int .i64 at_)).setCell ⟨g, 5, none⟩ lv') g s pv lv' (d.arm at_ l) := by
  have h1 := h.far (D := fun _ => False) (Kept.of_below hb) fun _ _ h => h
  have h2 := h1.turn 3 (.bool true) { d with armed := true } rfl rfl rfl rfl
  have h3 := h2.turn 4 (.int .i64 at_) { d with armed := true, at_ := at_ } rfl rfl rfl rfl
  have hge : ∀ k, lv'.ownBlock = some k → w.heap.size ≤ k := fun k hk => (ho.lt k hk).1
  have hsz : ∀ (w : World) v, w.heap.size ≤ (w.setCell ⟨g, 5, none⟩ v).heap.size := fun w v => by simp [World.setCell]
  have hbb : ∀ (w : World) v k, k ≠ g → (w.setCell ⟨g, 5, none⟩ v).heap[k]? = w.heap[k]? := fun w v k hk => heap_setCell_ne w ⟨g, 5, none⟩ v k hk
  have hg := h.glt
  have hs := h.secs.2.2.2.2.lt
  have ho' : ((w1.setCell ⟨g, 3, none⟩ (.bool true)).setCell ⟨g, 4, none⟩ (.int .i64 at_)).ownsRow 0 59 1 lv' l.length (l.map (Value.int .i64)) := by
    refine ownsRow_block (w := w1) ⟨ho.1, ho.2.imp id fun ⟨g', cap, cur, h1, _, h3⟩ => ⟨g', cap, cur, h1, Nat.zero_le _, h3⟩⟩ fun k hk => ?_
    have := hge k hk
    rw [heap_setCell_ne _ _ _ _ (show k ≠ g by omega), heap_setCell_ne _ _ _ _ (show k ≠ g by omega)]
  exact { head := by rw [heap_set h3.head]; rfl
          secs := h3.secs.keep (hbb _ _ s (Ne.symm h.gs)) (hsz _ _)
          pend := ownsRow_block h3.pend fun k hk => hbb _ _ k (fun e => h.pg (by rw [← e]; exact hk))
          pok := h.pok
          left := ownsRow_block ho' fun k hk => hbb _ _ k (by have := hge k hk; omega)
          gs := h.gs, pg := h.pg, ps := h.ps
          lg := fun e => by have := hge g e; omega
          ls := fun e => by have := hge s e; omega
          lp := fun k hk e => by have := hge k hk; have := (h.pend.lt k e).2; omega }

theorem KeepsAt.form {w : World} {v : Value} {l : List Int} (h : KeepsAt w v l) : ∃ a c, v = .slice a l.length c := by
  rcases h with ⟨rfl, rfl⟩ | ⟨ad, c, rfl, -⟩
  · exact ⟨_, _, rfl⟩
  · exact ⟨_, _, rfl⟩
theorem owns_form {w : World} {B : Nat} {e : TypeId} {size : Nat} {v : Value} {n : Nat} {xs : List Value} (h : w.ownsRow B e size v n xs) : ∃ a c, v = .slice a n c := by
  rcases h.2 with ⟨rfl, rfl⟩ | ⟨g, cap, cur, rfl, -⟩
  · exact ⟨_, _, rfl⟩
  · exact ⟨_, _, rfl⟩

set_option maxHeartbeats 2000000 in
theorem arm_m (g s : Nat) (pv lv v : Value) (d : Dk) (at_ : Int) (l : List Int) (w : World) (h : DiskM w g s pv lv d) (hk : KeepsAt w v l) (hm : l.length ≤ 4294967296) :
    Calls Tryz.prog 7 #[.pointer (some ⟨g, 0, none⟩), .agg #[.int .i64 at_, v]] w fun e w' => e = .returned (.tuple #[]) ∧ ∃ lv', DiskM w' g s pv lv' (d.arm at_ l) ∧ Kept (fun k => k = g) w w' ∧ ∀ k, lv'.ownBlock = some k → w.heap.size ≤ k := by
  obtain ⟨a0, n0, rfl⟩ := hk.form
  obtain ⟨v, hv⟩ : ∃ v, v = Value.slice a0 l.length n0 := ⟨_, rfl⟩
  obtain ⟨W, hW⟩ : ∃ W, W = (w.alloc (.cells #[.int .i64 at_, v] 26)).drew := ⟨_, rfl⟩
  have hWb : Below w.heap.size w W := by rw [hW]; exact ((Below.refl _ w).alloc (Nat.le_refl _) _).drew
  have hWs : W.heap.size = w.heap.size + 1 := by rw [hW]; show (w.alloc _).heap.size = _; simp
  have hD := h.far (D := fun _ => False) (Kept.of_below hWb) fun _ _ h => h
  have hgl := h.glt
  have hWc : W.cell? ⟨w.heap.size, 0, none⟩ = some (.int .i64 at_) ∧ W.cell? ⟨w.heap.size, 1, none⟩ = some v := by
    rw [hW]
    exact ⟨new_cell w #[.int .i64 at_, v] 26 0, new_cell w #[.int .i64 at_, v] 26 1⟩
  have HC := Lib.hid (show Calls Tryz.prog 18 #[v] W fun e w' => ∃ v' a' c', e = .returned v' ∧ v' = .slice a' l.length c' ∧ (w'.cell? ⟨w.heap.size, 0, none⟩ = some (.int .i64 at_) ∧ w'.cell? ⟨w.heap.size, 1, none⟩ = some v) ∧
      (∃ x, w'.cell? ⟨g, 3, none⟩ = some x) ∧ (∃ x, w'.cell? ⟨g, 4, none⟩ = some x) ∧ (∃ x, w'.cell? ⟨g, 5, none⟩ = some x) ∧ (∀ j, w'.frozen? ⟨g, j, none⟩ = false) ∧ Hid (w'.ownsRow W.heap.size 59 1 v' l.length (l.map (Value.int .i64)) ∧ Below W.heap.size W w') from
    (clone_keeps v l W (by rw [hv]; exact hk.below hWb) hm).mono fun e w' ⟨v', he, ho, hb⟩ => by
      obtain ⟨a', c', hv'⟩ := owns_form ho
      have h1 := hD.far (D := fun _ => False) (Kept.of_below hb) fun _ _ h => h
      obtain ⟨-, -, -, c3, c4, c5, -, cf⟩ := h1.cells
      exact ⟨v', a', c', he, hv', ⟨(hb.cell (p := ⟨w.heap.size, 0, none⟩) (by show w.heap.size < W.heap.size; omega)).trans hWc.1, (hb.cell (p := ⟨w.heap.size, 1, none⟩) (by show w.heap.size < W.heap.size; omega)).trans hWc.2⟩, ⟨_, c3⟩, ⟨_, c4⟩, ⟨_, c5⟩, cf, Lib.hid ⟨ho, hb⟩⟩)
  have hne : w.heap.size ≠ g := by omega
  have hne' : g ≠ w.heap.size := by omega
  have HD := Lib.hid hD
  have HW := Lib.hid (And.intro hWb (And.intro hWs hWc))
  have HH := Lib.hid hW
  rw [hv] at HC HH HW
  clear h hk hWb hWs hD hgl hWc hW hv
  go_enter Tryz.func7, Tryz.ntmps7
  go_wp2_with fail
  have hS0 : ((w.alloc (.cells #[.int .i64 at_, .slice a0 l.length n0] 26)).drew).cell? ⟨w.heap.size, 0, none⟩ = some (.int .i64 at_) ∧ ((w.alloc (.cells #[.int .i64 at_, .slice a0 l.length n0] 26)).drew).cell? ⟨w.heap.size, 1, none⟩ = some (.slice a0 l.length n0) := by
    rw [← HH.out]; exact HW.out.2.2
  go_region_held3 (fun W => W.cell? ⟨w.heap.size, 0, none⟩ = some (.int .i64 at_) ∧ W.cell? ⟨w.heap.size, 1, none⟩ = some (.slice a0 l.length n0)) (first | exact hS0 | assumption | (simp only [World.cell?_setCell_far _ _ _ _ hne']; assumption) | go_keep)
    (first | (go_at_call 18; rw [← HH.out]; refine HC.out.mono ?_; rintro e w1 ⟨v', a', c', rfl, rfl, hs1, ⟨x3, c3⟩, ⟨x4, c4⟩, ⟨x5, c5⟩, cf, HO⟩; have f3 := cf 3; have f4 := cf 4; have f5 := cf 5; clear cf))
  have HF := Lib.hid (HD.out.arming HO.out.2 at_ HO.out.1)
  have HK := Lib.hid (show Kept (fun k => k = g) w w1 from (Kept.of_below HW.out.1).trans (D' := fun _ => False) (Kept.of_below HO.out.2) fun _ h => h.elim)
  have HV := Lib.hid (show ∀ k, (Value.slice a' l.length c').ownBlock = some k → w.heap.size ≤ k from fun k hk => by have := (HO.out.1.lt k hk).1; have := HW.out.2.1; omega)
  clear hs1 c3 c4 c5 f3 f4 f5 hS0
  go_wp2_with fail
  go_end0
  exact ⟨rfl, _, HF.out, ((HK.out.setCell (.inl rfl) _).setCell (.inl rfl) _).setCell (.inl rfl) _, HV.out⟩
theorem arm_nil (v : Value) (w : World) (at_ : Int) (a : Option Addr) (n c : Nat) (hv : v = .agg #[.int .i64 at_, .slice a n c]) :
    Calls Tryz.prog 7 #[.pointer none, v] w fun e w' => e = .returned (.tuple #[]) ∧ Below w.heap.size w w' := by
  subst hv
  go_enter Tryz.func7, Tryz.ntmps7
  go_wp2_with fail
  refine bodyPost_ret (results_none rfl _ _ _) rfl ?_
  exact ⟨rfl, (Below.refl _ w).alloc (Nat.le_refl _) _⟩
end Go.Proofs.YtilplpjdbkipoaaGreatDoor

namespace Go.Proofs.YtilplpjdbkipoaaGreatDoor
open Go Go.RowKit DiskMath NetMem

/-- A round of the flush, done. -/
theorem flush_round {wr : World} {g s : Nat} {pv lv : Value} {d : Dk} {k : Nat} {i : Nat} {b : List UInt8} (hlt : k < d.p.length) (hx : (i, b) = d.p[k]) (h : DiskM wr g s pv lv { d with s := iter (flushR d.p) k d.s })
    (hi : i < (iter (flushR d.p) k d.s).length) (hb : b.length = 16) (W : World) (hW : Kept (fun _ => False) wr W) :
    DiskM (W.setCells s (i * 32) (Lib.byteCells b)) g s pv lv { d with s := iter (flushR d.p) (k + 1) d.s } := by
  have h1 := h.far hW fun _ _ hf => hf
  have hs := h1.secs.put1 i hi b hb
  have he : (iter (flushR d.p) k d.s).modify i (fun y => (b, y.2)) = iter (flushR d.p) (k + 1) d.s := by
    show _ = flushR d.p k (iter (flushR d.p) k d.s)
    unfold flushR
    rw [List.getElem?_eq_getElem hlt, ← hx]
  simp only at hs
  rw [he] at hs
  have hlen : (iter (flushR d.p) (k + 1) d.s).length = (iter (flushR d.p) k d.s).length := by rw [iter, flushR_length]
  have hbb : ∀ j, j ≠ s → (W.setCells s (i * 32) (Lib.byteCells b)).heap[j]? = W.heap[j]? := (setCells_same s _ _ _).2.2.2.2
  exact { head := by rw [hbb g h1.gs]; have := h1.head; unfold headV at this ⊢; simp only at this ⊢; rw [hlen]; exact this
          secs := hs
          pend := ownsRow_block h1.pend fun j hj => hbb j fun e => h1.ps (by rw [hj, e])
          pok := by have := h1.pok; simp only at this ⊢; rw [hlen]; exact this
          left := ownsRow_block h1.left fun j hj => hbb j fun e => h1.ls (by rw [hj, e])
          gs := h1.gs, pg := h1.pg, ps := h1.ps, lg := h1.lg, ls := h1.ls, lp := h1.lp }

def RelF (g s : Nat) (pv lv : Value) (d : Dk) (w : World) (i : Value) (wr : World) : Prop :=
  ∃ k : Nat, k ≤ d.p.length ∧ i = .int .i64 (k : Int) ∧ DiskM wr g s pv lv { d with s := iter (flushR d.p) k d.s } ∧ Kept (fun k => k = g ∨ k = s) w wr

theorem flush_down (g s : Nat) (pv lv : Value) (d : Dk) (w : World) (h : DiskM w g s pv lv d) (hd : d.down = true) :
    Calls Tryz.prog 45 #[.pointer (some ⟨g, 0, none⟩)] w fun e w' => e = .returned (.int .i64 5) ∧ w = w' := by
  have HD := Lib.hid (down_m g s pv lv d w h)
  rw [hd] at HD
  clear h hd
  go_enter Tryz.func45, Tryz.ntmps45
  go_wp2_with fail
  refine HD.out.mono ?_
  rintro e w1 ⟨rfl, rfl⟩
  go_wp2_with fail
  go_ret
  exact ⟨rfl, rfl⟩
theorem flush_nil (w : World) :
    Calls Tryz.prog 45 #[.pointer none] w fun e w' => e = .returned (.int .i64 5) ∧ w = w' := by
  go_enter Tryz.func45, Tryz.ntmps45
  go_wp2_with fail
  refine (down_nil w).mono ?_
  rintro e w1 ⟨rfl, rfl⟩
  go_wp2_with fail
  go_ret
  exact ⟨rfl, rfl⟩

set_option maxHeartbeats 1000000 in
theorem flush_hit (g s : Nat) (pv lv : Value) (d : Dk) (w : World) (h : DiskM w g s pv lv d) (hd : d.down = false) (hh : d.hits = true) :
    Calls Tryz.prog 45 #[.pointer (some ⟨g, 0, none⟩)] w fun e w' => e = .returned (.int .i64 5) ∧ DiskM w' g s (.slice none 0 0) (.slice none 0 0) d.crashed ∧ Kept (fun k => k = g ∨ k = s) w w' := by
  have HD := Lib.hid (down_m g s pv lv d w h)
  rw [hd] at HD
  have HC := Lib.hid (crashes_hit g s pv lv d w h hh)
  clear h hd hh
  go_enter Tryz.func45, Tryz.ntmps45
  go_wp2_with fail
  refine HD.out.mono ?_
  rintro e w1 ⟨rfl, rfl⟩
  go_wp2_with fail
  refine HC.out.mono ?_
  rintro e w1 ⟨rfl, h1, h2⟩
  have H1 := Lib.hid (And.intro h1 h2)
  clear h1 h2
  go_wp2_with fail
  go_ret
  exact ⟨rfl, H1.out.1, H1.out.2⟩

set_option maxHeartbeats 4000000 in
set_option maxRecDepth 100000 in
theorem flush_go (g s : Nat) (pv lv : Value) (d : Dk) (w : World) (h : DiskM w g s pv lv d) (hd : d.down = false) (hh : d.hits = false) (hn : d.n < 4611686018427387904) :
    Calls Tryz.prog 45 #[.pointer (some ⟨g, 0, none⟩)] w fun e w' => e = .returned (.int .i64 0) ∧ DiskM w' g s (.slice none 0 0) lv d.flushed ∧ Kept (fun k => k = g ∨ k = s) w w' := by
  obtain ⟨a, c, rfl, hm, -⟩ := h.pend_at
  unfold maxLen at hm
  have HDN := Lib.hid (down_m g s _ lv d w h)
  rw [hd] at HDN
  have HCR := Lib.hid (crashes_not g s _ lv d w h hh)
  have HD := Lib.hid h
  clear h hd hh
  go_enter Tryz.func45, Tryz.ntmps45
  go_wp2_with fail
  refine HDN.out.mono ?_
  rintro e w1 ⟨rfl, rfl⟩
  go_wp2_with fail
  refine HCR.out.mono ?_
  rintro e w0 ⟨rfl, hk0⟩
  have hd0 := HD.out.far hk0 fun _ _ h => h
  obtain ⟨-, c1, -⟩ := hd0.cells
  have HD0 := Lib.hid hd0
  have HK0 := Lib.hid (show Kept (fun k => k = g ∨ k = s) w w0 from hk0.mono fun _ _ h => h.elim)
  clear hd0 hk0
  go_wp2_with fail
  go_loopw [16] (fun i wr => RelF g s (.slice a d.p.length c) lv d w i wr) (fun i _ => d.p.length - (intOf i).toNat)
  case atStart => exact ⟨0, by omega, rfl, HD0.out, HK0.out⟩
  case round =>
    clear c1
    obtain ⟨k, hk, rfl, hdk, hkw⟩ := hrel
    by_cases hlt : k < d.p.length
    · obtain ⟨a', c', hv, -, hp⟩ := hdk.pend_at
      simp only [Value.slice.injEq] at hv
      obtain ⟨rfl, -, rfl⟩ := hv
      obtain ⟨q, rfl, hqg, hqs, hql, hr⟩ := hp k hlt
      obtain ⟨c0, -⟩ := hdk.cells
      obtain ⟨x, hx⟩ : ∃ x, x = d.p[k] := ⟨_, rfl⟩
      obtain ⟨L, hL⟩ : ∃ L, L = iter (flushR d.p) k d.s := ⟨_, rfl⟩
      have hok := hdk.pok d.p[k] (List.getElem_mem hlt)
      have hsec := hdk.secs
      simp only at hr hok hsec c0
      rw [← hx] at hr hok
      rw [← hL] at hok hsec c0
      obtain ⟨i, b⟩ := x
      simp only at hok
      obtain ⟨hi, hb⟩ := hok
      have hwl : (wcells (i, b)).length = 17 := wcells_length hb
      have h51 : (Tryz.prog.info? 89).map (·.size) = some (wcells (i, b)).length := by rw [sizeWrite, hwl]
      have h51b : (Tryz.prog.info? 89).map (·.size) = some (wcells (i, b)).toArray.size := by rw [sizeWrite, List.size_toArray, hwl]
      obtain ⟨cs, hcs⟩ : ∃ cs, cs = Lib.byteCells b := ⟨_, rfl⟩
      have hcl : cs.length = 16 := by rw [hcs, bl, hb]
      have hc1 : ∀ v ∈ cs, v.oneCell' = true := by rw [hcs]; exact oneCell_bytes _
      have h49 := Tryz.underlying87
      have h49s : (Tryz.prog.info? 87).map (·.size) = some cs.length := by rw [sizeContent, hcl]
      have hHs : wr.heap.size ≠ s := by have := hsec.2.2.2.2.lt; omega
      have hgs := hdk.gs
      have HR := Lib.hid hr
      have HI := Lib.hid (And.intro h51 (And.intro h51b (show zeroW.size = (wcells (i, b)).toArray.size from (show 17 = (wcells (i, b)).toArray.size by rw [List.size_toArray, hwl]))))
      have HX := Lib.hid (And.intro hx (And.intro hL (And.intro hi (And.intro hb hcs))))
      have HK := Lib.hid hkw
      have HDK := Lib.hid hdk
      obtain ⟨W1, hW1⟩ : ∃ W1, W1 = wr.alloc (.cells (wcells (i, b)).toArray 89) := ⟨_, rfl⟩
      have HS := Lib.hid (show tearS g s L.length wr.heap.size (i : Int) (i * 32) cs W1.drew by
        rw [hW1]
        refine tearS.drew ⟨(World.cell?_alloc_lt _ _ _ hdk.glt).trans c0, by rw [new_cell]; rfl, fun j v hv => ?_, World.there_alloc (there_part hsec.2.1 16 (by omega)) _⟩
        rw [hcs] at hv
        rw [new_cell]
        simp only [wcells, List.getElem?_toArray]
        rw [Nat.add_comm, List.getElem?_cons_succ]; exact hv)
      have HG := Lib.hid (fun (W : World) (h : tearS g s L.length wr.heap.size (i : Int) (i * 32) cs W) => h.store hgs hHs cs)
      have hi0 : (0 : Int) ≤ (i : Int) := by omega
      have hi1 : (i : Int) < (L.length : Int) := by omega
      have HW1 := Lib.hid hW1
      clear hx hL hkw hdk hp hr hsec h51 h51b hwl hcs hgs hHs hW1 hqg hqs hql c0
      go_wp2_with (first | (refine wpList_load_mid (by rfl) 89 (.tmp 18) (by rfl) q (k * 17) (by rfl) (wcells (i, b)) _ HR.out Tryz.underlying89 (by rfl) HI.out.1 ?_) | (refine wpList_store_new (by rfl) 89 (.tmp 4) (.tmp 19) (by rfl) wr zeroW (wcells (i, b)).toArray (by rfl) (by rfl) (by rfl) HI.out.2.1 HI.out.2.2 (all_wcells (i, b)) ?_))
      rw [← HW1.out]
      go_region_held3 (fun W => W.cell? ⟨g, 0, none⟩ = some (.slice (some ⟨s, 0, none⟩) L.length L.length) ∧ W.cell? ⟨wr.heap.size, 0, none⟩ = some (.int .i64 (i : Int)) ∧ W.rangeAt wr.heap.size 1 cs ∧ W.there s (i * 32) 16) (first | assumption | exact HS.out | exact HG.out _ (by assumption)) (fail)
      have HF := Lib.hid (show DiskM (W1.drew.setCells s (i * 32) cs) g s (.slice (some ⟨q, 0, none⟩) d.p.length c) lv { d with s := iter (flushR d.p) (k + 1) d.s } from by
        obtain ⟨hx, hL, hi, hb, hcs⟩ := HX.out
        have hi' : i < (iter (flushR d.p) k d.s).length := by rw [← hL]; exact hi
        have := flush_round hlt hx HDK.out hi' hb W1.drew (by rw [HW1.out]; exact ((Kept.refl _ wr).alloc _).drew)
        rw [hcs]; exact this)
      have HE := Lib.hid (show Kept (fun k => k = g ∨ k = s) w (W1.drew.setCells s (i * 32) cs) from (show Kept (fun k => k = g ∨ k = s) w W1.drew by rw [HW1.out]; exact (HK.out.alloc _).drew).setCells (.inl (.inr rfl)) _ _)
      go_wp2_with fail
      exact ⟨⟨k + 1, by omega, by go_num, HF.out, HE.out⟩, by simp [intOf]; omega⟩
    · obtain rfl : k = d.p.length := by omega
      obtain ⟨-, c1, c2, -, -, -, -, cf⟩ := hdk.cells
      simp only at c2
      have f1 := cf 1
      have f2 := cf 2
      have HK := Lib.hid hkw
      have HDK := Lib.hid hdk
      clear hdk hkw cf
      go_wp2_with fail
      go_ret
      refine ⟨rfl, HDK.out.forget.turn 2 _ d.flushed rfl rfl rfl ?_, (HK.out.setCell (.inl (.inl rfl)) _).setCell (.inl (.inl rfl)) _⟩
      rfl
end Go.Proofs.YtilplpjdbkipoaaGreatDoor

namespace Go.Proofs.YtilplpjdbkipoaaGreatDoor
open Go Go.RowKit DiskMath NetMem

theorem write_down (g s : Nat) (pv lv : Value) (d : Dk) (i : Int) (v : Value) (w : World) (h : DiskM w g s pv lv d) (hd : d.down = true) :
    Calls Tryz.prog 66 #[.pointer (some ⟨g, 0, none⟩), .int .i64 i, v] w fun e w' => e = .returned (.int .i64 5) ∧ w = w' := by
  have HD := Lib.hid (down_m g s pv lv d w h)
  rw [hd] at HD
  clear h hd
  go_enter Tryz.func66, Tryz.ntmps66
  go_wp2_with fail
  refine HD.out.mono ?_
  rintro e w1 ⟨rfl, rfl⟩
  go_wp2_with fail
  go_ret
  exact ⟨rfl, rfl⟩
theorem write_nil (i : Int) (v : Value) (w : World) :
    Calls Tryz.prog 66 #[.pointer none, .int .i64 i, v] w fun e w' => e = .returned (.int .i64 5) ∧ w = w' := by
  go_enter Tryz.func66, Tryz.ntmps66
  go_wp2_with fail
  refine (down_nil w).mono ?_
  rintro e w1 ⟨rfl, rfl⟩
  go_wp2_with fail
  go_ret
  exact ⟨rfl, rfl⟩

theorem write_long (g s : Nat) (pv lv : Value) (d : Dk) (i : Int) (p : Option Addr) (n c : Nat) (w : World) (h : DiskM w g s pv lv d) (hd : d.down = false) (hn : n ≠ 16) :
    Calls Tryz.prog 66 #[.pointer (some ⟨g, 0, none⟩), .int .i64 i, .slice p n c] w fun e w' => e = .returned (.int .i64 1) ∧ w = w' := by
  have HD := Lib.hid (down_m g s pv lv d w h)
  rw [hd] at HD
  have hne : ((n : Int) != 16) = true := by simp; omega
  clear h hd
  go_enter Tryz.func66, Tryz.ntmps66
  go_wp2_with fail
  refine HD.out.mono ?_
  rintro e w1 ⟨rfl, rfl⟩
  go_wp2_with fail
  go_ret
  exact ⟨rfl, rfl⟩

set_option maxHeartbeats 1000000 in
theorem write_none (g s : Nat) (pv lv : Value) (d : Dk) (i : Int) (p : Option Addr) (c : Nat) (w : World) (h : DiskM w g s pv lv d) (hd : d.down = false) (hi : d.has i = false) :
    Calls Tryz.prog 66 #[.pointer (some ⟨g, 0, none⟩), .int .i64 i, .slice p 16 c] w fun e w' => e = .returned (.int .i64 4) ∧ w = w' := by
  have HD := Lib.hid (down_m g s pv lv d w h)
  rw [hd] at HD
  have HH := Lib.hid (has_m g s pv lv d i w h)
  rw [hi] at HH
  clear h hd hi
  go_enter Tryz.func66, Tryz.ntmps66
  go_wp2_with fail
  refine HD.out.mono ?_
  rintro e w1 ⟨rfl, rfl⟩
  go_wp2_with fail
  refine HH.out.mono ?_
  rintro e w1 ⟨rfl, rfl⟩
  go_wp2_with fail
  go_ret
  exact ⟨rfl, rfl⟩

set_option maxHeartbeats 1000000 in
theorem write_hit (g s : Nat) (pv lv : Value) (d : Dk) (i : Int) (p : Option Addr) (c : Nat) (w : World) (h : DiskM w g s pv lv d) (hd : d.down = false) (hi : d.has i = true) (hh : d.hits = true) :
    Calls Tryz.prog 66 #[.pointer (some ⟨g, 0, none⟩), .int .i64 i, .slice p 16 c] w fun e w' => e = .returned (.int .i64 5) ∧ DiskM w' g s (.slice none 0 0) (.slice none 0 0) d.crashed ∧ Kept (fun k => k = g ∨ k = s) w w' := by
  have HD := Lib.hid (down_m g s pv lv d w h)
  rw [hd] at HD
  have HH := Lib.hid (has_m g s pv lv d i w h)
  rw [hi] at HH
  have HC := Lib.hid (crashes_hit g s pv lv d w h hh)
  clear h hd hi hh
  go_enter Tryz.func66, Tryz.ntmps66
  go_wp2_with fail
  refine HD.out.mono ?_
  rintro e w1 ⟨rfl, rfl⟩
  go_wp2_with fail
  refine HH.out.mono ?_
  rintro e w1 ⟨rfl, rfl⟩
  go_wp2_with fail
  refine HC.out.mono ?_
  rintro e w1 ⟨rfl, h1, h2⟩
  have H1 := Lib.hid (And.intro h1 h2)
  clear h1 h2
  go_wp2_with fail
  go_ret
  exact ⟨rfl, H1.out.1, H1.out.2⟩

theorem run_array (a : Addr) (c : Nat) (w : World) : (Instr.arrayAt 87 (.slice (some a) 16 c)).run Tryz.prog w = .ok (.pointer (some a)) w := by
  simp [Instr.arrayAt, run_underlying Tryz.underlying87]
theorem info51 : (Tryz.prog.info? 89).map (fun i => (i.zero, i.size, i.bytes)) = some (some (.agg zeroW), 17, 24) := by kernel_rfl

theorem sixteen {l : List Value} (h : l.length = 16) : ∃ b0 b1 b2 b3 b4 b5 b6 b7 b8 b9 b10 b11 b12 b13 b14 b15, l = [b0, b1, b2, b3, b4, b5, b6, b7, b8, b9, b10, b11, b12, b13, b14, b15] := by
  match l, h with
  | [b0, b1, b2, b3, b4, b5, b6, b7, b8, b9, b10, b11, b12, b13, b14, b15], _ => exact ⟨b0, b1, b2, b3, b4, b5, b6, b7, b8, b9, b10, b11, b12, b13, b14, b15, rfl⟩

/-- What is pending, with one write more. -/
theorem pend_put {w0 : World} {g s : Nat} {pv lv : Value} {d : Dk} {i : Nat} {l : List UInt8} (h : DiskM w0 g s pv lv d) (hi : i < d.s.length) (hl : l.length = 16) (o2 : Obj) (w1 : World) (q cap : Nat)
    (hown : w1.ownsRow 0 89 17 (.slice (some ⟨q, 0, none⟩) (d.p.length + 1) cap) (d.p.length + 1) (pcells d.p ++ pcells [(i, l)]))
    (hgrow : (((w0.alloc (.cells (Lib.byteCells l).toArray 87)).alloc o2).drew).grownBy w1 pv.ownBlock) (hat : pv.ownBlock = some q ∨ q = w0.heap.size + 2) :
    DiskM (w1.setCell ⟨g, 1, none⟩ (.slice (some ⟨q, 0, none⟩) (d.p.length + 1) cap)) g s (.slice (some ⟨q, 0, none⟩) (d.p.length + 1) cap) lv { d with p := d.p ++ [(i, l)] } ∧
      (w1.setCell ⟨g, 1, none⟩ (.slice (some ⟨q, 0, none⟩) (d.p.length + 1) cap)).rangeAt w0.heap.size 0 (Lib.byteCells l) ∧
      Kept (fun k => k = g ∨ pv.ownBlock = some k) w0 (w1.setCell ⟨g, 1, none⟩ (.slice (some ⟨q, 0, none⟩) (d.p.length + 1) cap)) ∧ w0.heap.size < w1.heap.size := by
  have hg := h.glt
  have hs := h.secs.2.2.2.2.lt
  have hsz2 : (((w0.alloc (.cells (Lib.byteCells l).toArray 87)).alloc o2).drew).heap.size = w0.heap.size + 2 := by
    show ((w0.alloc (.cells (Lib.byteCells l).toArray 87)).alloc o2).heap.size = _
    simp
  have hsz := hgrow.size
  rw [hsz2] at hsz
  have hold : ∀ k, k < w0.heap.size → (((w0.alloc (.cells (Lib.byteCells l).toArray 87)).alloc o2).drew).heap[k]? = w0.heap[k]? := fun k hk =>
    (Below.heap_alloc _ _ _ (by simp; omega)).trans (Below.heap_alloc _ _ _ hk)
  have hb : ∀ k, k < w0.heap.size → pv.ownBlock ≠ some k → w1.heap[k]? = w0.heap[k]? := fun k hk hn => (hgrow.block k (by rw [hsz2]; omega) (Ne.symm hn)).trans (hold k hk)
  have hq : q ≠ g ∧ q ≠ s ∧ ∀ k, lv.ownBlock = some k → q ≠ k := by
    rcases hat with e | e
    · exact ⟨fun e' => h.pg (by rw [e, e']), fun e' => h.ps (by rw [e, e']), fun k hk e' => h.lp k hk (by rw [e, e'])⟩
    · exact ⟨by omega, by omega, fun k hk => by have := (h.left.lt k hk).2; omega⟩
  have hset : ∀ (v : Value) k, k ≠ g → (w1.setCell ⟨g, 1, none⟩ v).heap[k]? = w1.heap[k]? := fun v k hk => heap_setCell_ne w1 ⟨g, 1, none⟩ v k hk
  have hss : ∀ v : Value, (w1.setCell ⟨g, 1, none⟩ v).heap.size = w1.heap.size := fun v => by simp [World.setCell]
  refine ⟨{ head := ?_, secs := ?_, pend := ?_, pok := ?_, left := ?_, gs := h.gs, pg := ?_, ps := ?_, lg := h.lg, ls := h.ls, lp := ?_ }, ?_, ?_, by omega⟩
  · rw [heap_set ((hb g hg h.pg).trans h.head)]
    rfl
  · exact h.secs.keep ((hset _ s (Ne.symm h.gs)).trans (hb s hs h.ps)) (by rw [hss]; omega)
  · rw [pcells_append]
    have : (d.p ++ [(i, l)]).length = d.p.length + 1 := by simp
    simp only [this]
    exact ownsRow_block hown fun k hk => hset _ k (by have : q = k := by simpa [Value.ownBlock] using hk
                                                      rw [← this]; exact hq.1)
  · intro x hx
    rcases List.mem_append.1 hx with hx | hx
    · exact h.pok x hx
    · obtain rfl : x = (i, l) := by simpa using hx
      exact ⟨hi, hl⟩
  · exact ownsRow_block h.left fun k hk => (hset _ k (fun e => h.lg (by rw [hk, e]))).trans (hb k (h.left.lt k hk).2 (h.lp k hk))
  · simpa [Value.ownBlock] using hq.1
  · simpa [Value.ownBlock] using hq.2.1
  · intro k hk
    simpa [Value.ownBlock] using hq.2.2 k hk
  · refine rangeAt_block (w := (((w0.alloc (.cells (Lib.byteCells l).toArray 87)).alloc o2).drew)) (fun j v hv => ?_) ?_
    · have h1 := new_cell w0 (Lib.byteCells l).toArray 87 (0 + j)
      have h2 : ((w0.alloc (.cells (Lib.byteCells l).toArray 87)).alloc o2).cell? ⟨w0.heap.size, 0 + j, none⟩ = (w0.alloc (.cells (Lib.byteCells l).toArray 87)).cell? ⟨w0.heap.size, 0 + j, none⟩ := World.cell?_alloc_lt _ _ _ (by simp)
      exact (h2.trans h1).trans (by rw [Nat.zero_add]; simpa using hv)
    · rw [hset _ _ (by omega)]
      refine hgrow.block _ (by rw [hsz2]; omega) (fun e => ?_)
      have := (h.pend.lt _ e.symm).2
      omega
  · refine Kept.setCell ?_ (.inl (.inl rfl)) _
    refine Kept.grown (w := (((w0.alloc (.cells (Lib.byteCells l).toArray 87)).alloc o2).drew)) ((((Kept.refl _ w0).alloc _).alloc _).drew) hgrow fun k hk => .inl (.inr hk)

/-- What is there while the sector that was written last is laid. -/
def writeS (g s N H o : Nat) (cs : List Value) (W : World) : Prop :=
  W.cell? ⟨g, 0, none⟩ = some (.slice (some ⟨s, 0, none⟩) N N) ∧ W.rangeAt H 0 cs ∧ W.there s o 16
theorem writeS.store {g s N H o : Nat} {cs : List Value} {W : World} (h : writeS g s N H o cs W) (hg : g ≠ s) (hH : H ≠ s) (ds : List Value) : writeS g s N H o cs (W.setCells s o ds) :=
  ⟨by rw [World.cell?_setCells_out s ds o W _ (fun e => absurd e hg)]; exact h.1, World.rangeAt_setCells_apart h.2.1 _ _ _ (.inl hH), World.there_setCells h.2.2 _ _ _⟩
theorem writeS.drew {g s N H o : Nat} {cs : List Value} {W : World} (h : writeS g s N H o cs W) : writeS g s N H o cs W.drew := by
  unfold writeS at h ⊢
  simpa using h
theorem last_put {W : World} {g s : Nat} {pv lv : Value} {d : Dk} {p : List (Nat × List UInt8)} {i : Nat} {l : List UInt8} (h : DiskM W g s pv lv { d with p := p }) (hi : i < d.s.length) (hl : l.length = 16) :
    DiskM (W.drew.setCells s (i * 32 + 16) (Lib.byteCells l)) g s pv lv { d with p := p, s := d.s.modify i fun y => (y.1, l) } := by
  have h1 := h.far ((Kept.refl (fun _ => False) W).drew) fun _ _ h => h
  have hs := h1.secs.put2 i hi l hl
  have hb : ∀ j, j ≠ s → (W.drew.setCells s (i * 32 + 16) (Lib.byteCells l)).heap[j]? = W.drew.heap[j]? := (setCells_same s _ _ _).2.2.2.2
  have hlen : (d.s.modify i fun y => (y.1, l)).length = d.s.length := List.length_modify ..
  exact { head := by rw [hb g h1.gs]; have := h1.head; unfold headV at this ⊢; simp only at this ⊢; rw [hlen]; exact this
          secs := hs
          pend := ownsRow_block h1.pend fun j hj => hb j fun e => h1.ps (by rw [hj, e])
          pok := by have := h1.pok; simp only at this ⊢; rw [hlen]; exact this
          left := ownsRow_block h1.left fun j hj => hb j fun e => h1.ls (by rw [hj, e])
          gs := h1.gs, pg := h1.pg, ps := h1.ps, lg := h1.lg, ls := h1.ls, lp := h1.lp }

set_option maxHeartbeats 8000000 in
set_option maxRecDepth 100000 in
theorem write_go (g s : Nat) (pv lv : Value) (d : Dk) (i : Nat) (p : Option Addr) (c : Nat) (l : List UInt8) (w : World) (h : DiskM w g s pv lv d) (hd : d.down = false) (hi : i < d.s.length) (hh : d.hits = false)
    (hr : Row w (.slice p 16 c) l) (hn : d.n < 4611686018427387904) (hp : d.p.length < 4294967296) :
    Calls Tryz.prog 66 #[.pointer (some ⟨g, 0, none⟩), .int .i64 (i : Int), .slice p 16 c] w fun e w' => e = .returned (.int .i64 0) ∧ ∃ pv', DiskM w' g s pv' lv (d.put i l) ∧ Kept (fun k => k = g ∨ k = s ∨ pv.ownBlock = some k) w w' ∧
      ∀ k, pv'.ownBlock = some k → pv.ownBlock = some k ∨ w.heap.size ≤ k := by
  have HD := Lib.hid (down_m g s pv lv d w h)
  rw [hd] at HD
  have HH := Lib.hid (has_m g s pv lv d i w h)
  rw [show d.has i = true by simp [Dk.has, hi]] at HH
  have HC := Lib.hid (crashes_not g s pv lv d w h hh)
  have HM := Lib.hid h
  have HR := Lib.hid hr
  clear h hd hh hr
  go_enter Tryz.func66, Tryz.ntmps66
  go_wp2_with fail
  refine HD.out.mono ?_
  rintro e w1 ⟨rfl, rfl⟩
  go_wp2_with fail
  refine HH.out.mono ?_
  rintro e w1 ⟨rfl, rfl⟩
  go_wp2_with fail
  refine HC.out.mono ?_
  rintro e w0 ⟨rfl, hk0⟩
  have HK0 := Lib.hid hk0
  obtain ⟨hl16, hlc, hcm, hcc⟩ := Row.nums HR.out
  obtain ⟨bb, o, rfl, hrow⟩ := hcc (by omega)
  have hm0 := HM.out.far hk0 fun _ _ h => h
  obtain ⟨b0, b1, b2, b3, b4, b5, b6, b7, b8, b9, b10, b11, b12, b13, b14, b15, hcs⟩ := sixteen (show (Lib.byteCells l).length = 16 by rw [bl]; exact hl16.symm)
  have HLb := Lib.hid (show w0.rangeAt bb o [b0, b1, b2, b3, b4, b5, b6, b7, b8, b9, b10, b11, b12, b13, b14, b15] from fun j v hv => by
    rw [← hcs] at hv
    have hj : j < (Lib.byteCells l).length := (List.getElem?_eq_some_iff.1 hv).1
    rw [bl] at hj
    rw [bc_at _ j hj] at hv
    cases hv
    exact hk0.cell (hrow j hj) (fun h => h))
  have HI := Lib.hid (show (Tryz.prog.info? 87).map (·.size) = some ([b0, b1, b2, b3, b4, b5, b6, b7, b8, b9, b10, b11, b12, b13, b14, b15] : List Value).length ∧ (Tryz.prog.info? 87).map (·.size) = some ([b0, b1, b2, b3, b4, b5, b6, b7, b8, b9, b10, b11, b12, b13, b14, b15] : List Value).toArray.size ∧ zeroC.size = ([b0, b1, b2, b3, b4, b5, b6, b7, b8, b9, b10, b11, b12, b13, b14, b15] : List Value).toArray.size ∧ ([b0, b1, b2, b3, b4, b5, b6, b7, b8, b9, b10, b11, b12, b13, b14, b15] : List Value).toArray.all (·.oneCell') = true from ⟨sizeContent, sizeContent, rfl, by rw [← hcs]; exact all_bytes l⟩)
  have HM0 := Lib.hid hm0
  obtain ⟨c0, c1, c2, -, -, -, -, cf⟩ := hm0.cells
  obtain ⟨i0, hi0, hz0, hz1, hz2⟩ := info_parts info51
  have HI0 := Lib.hid (And.intro hi0 (And.intro hz0 (And.intro hz1 hz2)))
  have hgl := hm0.glt
  have hk1 : ∀ o1, (w0.alloc o1).cell? ⟨g, 1, none⟩ = some pv := fun o1 => (World.cell?_alloc_lt _ _ _ hgl).trans c1
  have hk2 : ∀ o1 o2, ((w0.alloc o1).alloc o2).cell? ⟨g, 1, none⟩ = some pv := fun o1 o2 => (World.cell?_alloc_lt _ _ _ (by simp; omega)).trans (hk1 o1)
  have HO := Lib.hid (show ∀ o1 o2, (((w0.alloc o1).alloc o2).drew).ownsRow 0 89 17 pv d.p.length (pcells d.p) from fun o1 o2 => (hm0.pend.alloc o1).alloc o2)
  have HN := Lib.hid (show ∀ o1, ∀ j u, (Value.int .i64 (i : Int) :: [b0, b1, b2, b3, b4, b5, b6, b7, b8, b9, b10, b11, b12, b13, b14, b15])[j]? = some u → (((w0.alloc o1).alloc (.cells (Value.int .i64 (i : Int) :: [b0, b1, b2, b3, b4, b5, b6, b7, b8, b9, b10, b11, b12, b13, b14, b15]).toArray 89)).drew).cell? ((⟨w0.heap.size + 1, 0, none⟩ : Addr).add j) = some u from fun o1 j u hu => by
    rw [Lib.add_plain, Nat.zero_add, show w0.heap.size + 1 = (w0.alloc o1).heap.size by simp]
    exact (new_cell (w0.alloc o1) _ 89 j).trans (by simpa using hu))
  have HG := Lib.hid (show ∀ o1 o2 w1, (((w0.alloc o1).alloc o2).drew).grownBy w1 pv.ownBlock → w1.cell? ⟨g, 1, none⟩ = some pv ∧ w1.frozen? ⟨g, 1, none⟩ = false from fun o1 o2 w1 hgr => by
    have hne : some g ≠ pv.ownBlock := Ne.symm hm0.pg
    have hlt : g < ((w0.alloc o1).alloc o2).drew.heap.size := by show g < ((w0.alloc o1).alloc o2).heap.size; simp; omega
    refine ⟨(hgr.cell_far ⟨g, 1, none⟩ hlt hne).trans (hk2 o1 o2), (hgr.frozen_far ⟨g, 1, none⟩ hlt hne).trans ?_⟩
    have h1 : ((w0.alloc o1).alloc o2).frozen? ⟨g, 1, none⟩ = w0.frozen? ⟨g, 1, none⟩ := World.frozen?_of_block (by
      rw [Below.heap_alloc _ _ _ (by simp; omega), Below.heap_alloc _ _ _ hgl])
    exact h1.trans (cf 1))
  have H1 := Lib.hid (show ∀ u ∈ Value.int .i64 (i : Int) :: [b0, b1, b2, b3, b4, b5, b6, b7, b8, b9, b10, b11, b12, b13, b14, b15], u.oneCell' = true from fun u hu => by
    rcases List.mem_cons.1 hu with rfl | hu
    · rfl
    · rw [← hcs] at hu; exact oneCell_bytes l u hu)
  have HCS := Lib.hid hcs
  have har := run_array
  have hc16 : (16 : Int) ≤ (c : Int) := by omega
  clear hk0 hl16 hcc hrow hm0 c0 c1 c2 cf hcs hi0 hz0 hz1 hz2 hcm
  go_wp2_with (first | (refine wpList_load_mid (by rfl) 87 (.tmp 20) (by rfl) bb o (by rfl) [b0, b1, b2, b3, b4, b5, b6, b7, b8, b9, b10, b11, b12, b13, b14, b15] _ HLb.out Tryz.underlying87 (by rfl) HI.out.1 ?_) | (refine wpList_store_new (by rfl) 87 (.tmp 7) (.tmp 21) (by rfl) w0 zeroC (List.toArray [b0, b1, b2, b3, b4, b5, b6, b7, b8, b9, b10, b11, b12, b13, b14, b15]) (by rfl) (by rfl) (by rfl) HI.out.2.1 HI.out.2.2.1 HI.out.2.2.2 ?_))
  try simp only [Act.put]
  go_region_law (refine step_append_lies _ (by rfl) (.tmp 26) (.tmp 30) 49 (by rfl) 0 89 i0 (.agg zeroW) 17 24 Tryz.underlying49 HI0.out.1 HI0.out.2.1 HI0.out.2.2.1 HI0.out.2.2.2 (by rfl) (by decide) pv d.p.length (pcells d.p) (by rfl) (HO.out _ _) ⟨w0.heap.size + 1, 0, none⟩ 1 1 (Value.int .i64 (i : Int) :: [b0, b1, b2, b3, b4, b5, b6, b7, b8, b9, b10, b11, b12, b13, b14, b15]) (by rfl) (by rfl) (HN.out _) H1.out (by decide) (by unfold maxLen; omega) (by omega) (by omega) (w0.heap.size + 2) (by simp) ?_; intro q cap w1 hown hgrow hat hlt; have hx1 := (HG.out _ _ w1 hgrow).1; have hx2 := (HG.out _ _ w1 hgrow).2; have HB := Lib.hid (And.intro hown (And.intro hgrow (And.intro hat hlt))); clear hown hgrow hat hlt)
  all_goals
    clear hk1 hk2 hx1 hx2 HG HN HO
    obtain ⟨hown, hgrow, hat, hlt⟩ := HB.out
    have hput := pend_put HM0.out hi (by rw [← bl]; rw [HCS.out]; rfl) _ w1 q cap (by rw [pcells_one, wcells, HCS.out]; exact hown) (by rw [HCS.out]; exact hgrow) hat
    have HQ := Lib.hid hat
    clear hown hgrow hat hlt HB
    obtain ⟨W2, hW2⟩ : ∃ W2, W2 = w1.setCell ⟨g, 1, none⟩ (.slice (some ⟨q, 0, none⟩) (d.p.length + 1) cap) := ⟨_, rfl⟩
    rw [← hW2] at hput ⊢
    clear hW2
    obtain ⟨hd2, hr2, hk2, hs2⟩ := hput
    obtain ⟨c0, -⟩ := hd2.cells
    simp only at c0
    obtain ⟨N, hN⟩ : ∃ N, N = d.s.length := ⟨_, rfl⟩
    obtain ⟨cs, hcs⟩ : ∃ cs, cs = Lib.byteCells l := ⟨_, rfl⟩
    have hcl : cs.length = 16 := by rw [hcs, HCS.out]; rfl
    have hc1 : ∀ v ∈ cs, v.oneCell' = true := by rw [hcs]; exact oneCell_bytes _
    have h49 := Tryz.underlying87
    have h49s : (Tryz.prog.info? 87).map (·.size) = some cs.length := by rw [sizeContent, hcl]
    have hi0 : (0 : Int) ≤ (i : Int) := by omega
    have hi1 : (i : Int) < (N : Int) := by omega
    have hsec := hd2.secs
    simp only at hsec
    rw [← hN] at c0
    rw [← hcs] at hr2
    have HS := Lib.hid (show writeS g s N w0.heap.size (i * 32 + 16) cs W2.drew from writeS.drew ⟨c0, hr2, there_part hsec.2.1 16 (by omega)⟩)
    have hHs : w0.heap.size ≠ s := by have := HM0.out.secs.2.2.2.2.lt; omega
    have HGG := Lib.hid (fun (W : World) (h : writeS g s N w0.heap.size (i * 32 + 16) cs W) => h.store hd2.gs hHs cs)
    have HD2 := Lib.hid hd2
    have HK2 := Lib.hid (And.intro hk2 (And.intro hcs hN))
    clear hd2 hr2 hk2 hs2 hcs hN hsec hHs c0
    go_wp2_with fail
    go_region_held3 (fun W => W.cell? ⟨g, 0, none⟩ = some (.slice (some ⟨s, 0, none⟩) N N) ∧ W.rangeAt w0.heap.size 0 cs ∧ W.there s (i * 32 + 16) 16) (first | assumption | exact HS.out | exact HGG.out _ (by assumption)) (fail)
    have hd3 : DiskM (W2.drew.setCells s (i * 32 + 16) cs) g s (.slice (some ⟨q, 0, none⟩) (d.p.length + 1) cap) lv { d with p := d.p ++ [(i, l)], s := d.s.modify i fun y => (y.1, l) } := by
      rw [HK2.out.2.1]
      exact last_put HD2.out hi (by rw [← bl]; rw [HCS.out]; rfl)
    have hk3 : Kept (fun k => k = g ∨ k = s ∨ pv.ownBlock = some k) w (W2.drew.setCells s (i * 32 + 16) cs) :=
      (((HK0.out.mono (D' := fun k => k = g ∨ k = s ∨ pv.ownBlock = some k) fun _ _ h => h.elim).trans HK2.out.1 (fun k hk => .inl (hk.elim .inl fun h => .inr (.inr h)))).drew).setCells (.inl (.inr (.inl rfl))) _ _
    obtain ⟨W3, hW3⟩ : ∃ W3, W3 = W2.drew.setCells s (i * 32 + 16) cs := ⟨_, rfl⟩
    rw [← hW3] at hd3 hk3 ⊢
    obtain ⟨-, -, c2, -, -, -, -, cf⟩ := hd3.cells
    simp only at c2
    have f2 := cf 2
    have HD3 := Lib.hid hd3
    have HK3 := Lib.hid hk3
    clear hd3 hk3 hW3 cf HS HGG
    go_wp2_with fail
    go_ret
    refine ⟨rfl, .slice (some ⟨q, 0, none⟩) (d.p.length + 1) cap, HD3.out.turn 2 _ (d.put i l) rfl rfl rfl ?_, HK3.out.setCell (.inl (.inl rfl)) _, fun k hk => ?_⟩
    · simp [headV, Dk.put]
    · have hk' : q = k := by simpa [Value.ownBlock] using hk
      subst hk'
      rcases HQ.out with h | h
      · exact .inl h
      · right; have := HK0.out.size; omega
end Go.Proofs.YtilplpjdbkipoaaGreatDoor
