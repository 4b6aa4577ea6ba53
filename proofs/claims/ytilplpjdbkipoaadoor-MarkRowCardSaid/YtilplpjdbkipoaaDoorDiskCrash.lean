/-
  Proved: crashes crashes the disk, if its next operation is to be none: of each pending write so many bytes are left as the crash says. Conditions: the disk lies in memory.
-/
import Derived.Test.YtilplpjdbkipoaaDoorDiskDrop
import Derived.Test.YtilplpjdbkipoaaDoorDiskAsk
import Derived.BigQuiet
namespace Go.Proofs.YtilplpjdbkipoaaDoor
open Go Go.RowKit DiskMath NetMem

theorem rangeAt_append {w : World} {b o : Nat} {xs ys : List Value} (h1 : w.rangeAt b o xs) (h2 : w.rangeAt b (o + xs.length) ys) : w.rangeAt b o (xs ++ ys) := fun j v hv => by
  rcases Nat.lt_or_ge j xs.length with h | h
  · rw [List.getElem?_append_left h] at hv; exact h1 j v hv
  · rw [List.getElem?_append_right h] at hv
    have := h2 (j - xs.length) v hv
    rwa [show o + xs.length + (j - xs.length) = o + j by omega] at this
theorem rangeAt_drop {w : World} {b o : Nat} {xs : List Value} (h : w.rangeAt b o xs) (k : Nat) : w.rangeAt b (o + k) (xs.drop k) := fun j v hv => by
  rw [List.getElem?_drop] at hv
  have := h (k + j) v hv
  rwa [← Nat.add_assoc] at this
theorem bc_append (a b : List UInt8) : Lib.byteCells (a ++ b) = Lib.byteCells a ++ Lib.byteCells b := by simp [Lib.byteCells]
theorem bc_drop (a : List UInt8) (k : Nat) : Lib.byteCells (a.drop k) = (Lib.byteCells a).drop k := by simp [Lib.byteCells]

/-- The first k bytes of sector i are written. -/
theorem SecAt.tear {w : World} {s : Nat} {l : Secs} (h : SecAt w s l) (i : Nat) (hi : i < l.length) (b : List UInt8) (hb : b.length = 16) (k : Nat) (hk : k ≤ 16) :
    SecAt (w.setCells s (i * 32) (Lib.byteCells (b.take k))) s (l.modify i fun y => (b.take k ++ y.1.drop k, y.2)) := by
  obtain ⟨h1, h2, h3, h4, h5⟩ := h
  have htk : (b.take k).length = k := by rw [List.length_take]; omega
  have ht : w.there s (i * 32) (Lib.byteCells (b.take k)).length := there_part h2 _ (by rw [bl, htk]; omega)
  refine ⟨fun j hj => ?_, ?_, fun x hx => ?_, by simpa using h4, h5.setCells s _ _⟩
  · rw [List.length_modify] at hj
    have hl := h3 _ (List.getElem_mem hj)
    rw [List.getElem_modify]
    by_cases e : i = j
    · subst e
      rw [if_pos rfl]
      refine ⟨?_, World.rangeAt_setCells_apart (h1 i hj).2 _ _ _ (by rw [bl, bl, htk]; omega)⟩
      show World.rangeAt _ s (i * 32) (Lib.byteCells (b.take k ++ (l[i].1).drop k))
      rw [bc_append]
      refine rangeAt_append (World.rangeAt_setCells_same _ _ _ _ ht) ?_
      rw [bl, htk, bc_drop]
      refine World.rangeAt_setCells_apart (rangeAt_drop (h1 i hj).1 k) _ _ _ (by rw [bl, htk]; omega)
    · rw [if_neg e]
      exact ⟨World.rangeAt_setCells_apart (h1 j hj).1 _ _ _ (by rw [bl, bl, htk, hl.1]; omega), World.rangeAt_setCells_apart (h1 j hj).2 _ _ _ (by rw [bl, bl, htk, hl.2]; omega)⟩
  · rw [List.length_modify]; exact World.there_setCells h2 _ _ _
  · obtain ⟨j, hj, rfl⟩ := List.getElem_of_mem hx
    rw [List.length_modify] at hj
    rw [List.getElem_modify]
    have hl := h3 _ (List.getElem_mem hj)
    split
    · exact ⟨torn_length hb hl.1 hk, hl.2⟩
    · exact hl

/-- What the round of the crash's loop holds. -/
def tearS (g s N H : Nat) (i : Int) (o : Nat) (cs : List Value) (W : World) : Prop :=
  W.cell? ⟨g, 0, none⟩ = some (.slice (some ⟨s, 0, none⟩) N N) ∧ W.cell? ⟨H, 0, none⟩ = some (.int .i64 i) ∧ W.rangeAt H 1 cs ∧ W.there s o 16
theorem tearS.store {g s N H : Nat} {i : Int} {o : Nat} {cs : List Value} {W : World} (h : tearS g s N H i o cs W) (hg : g ≠ s) (hH : H ≠ s) (ds : List Value) : tearS g s N H i o cs (W.setCells s o ds) :=
  ⟨by rw [World.cell?_setCells_out s ds o W _ (fun e => absurd e hg)]; exact h.1, by rw [World.cell?_setCells_out s ds o W _ (fun e => absurd e hH)]; exact h.2.1,
    World.rangeAt_setCells_apart h.2.2.1 _ _ _ (.inl hH), World.there_setCells h.2.2.2 _ _ _⟩
theorem tearS.drew {g s N H : Nat} {i : Int} {o : Nat} {cs : List Value} {W : World} (h : tearS g s N H i o cs W) : tearS g s N H i o cs W.drew := by
  unfold tearS at h ⊢
  simpa using h

/-- A round of the crash, done. -/
theorem tear_round {wr : World} {g s : Nat} {pv lv : Value} {d : Dk} {k : Nat} {i : Nat} {b : List UInt8} (hlt : k < d.p.length) (hx : (i, b) = d.p[k]) (h : DiskM wr g s pv lv { d with s := iter (crashR d.left d.p) k d.s })
    (hi : i < (iter (crashR d.left d.p) k d.s).length) (hb : b.length = 16) (W : World) (hW : Kept (fun _ => False) wr W) :
    DiskM (W.setCells s (i * 32) (Lib.byteCells (b.take (keepOf d.left k)))) g s pv lv { d with s := iter (crashR d.left d.p) (k + 1) d.s } := by
  have h1 := h.far hW fun _ _ hf => hf
  have hs := h1.secs.tear i hi b hb (keepOf d.left k) (keepOf_le _ _)
  have he : (iter (crashR d.left d.p) k d.s).modify i (fun y => (b.take (keepOf d.left k) ++ y.1.drop (keepOf d.left k), y.2)) = iter (crashR d.left d.p) (k + 1) d.s := by
    show _ = crashR d.left d.p k (iter (crashR d.left d.p) k d.s)
    unfold crashR
    rw [List.getElem?_eq_getElem hlt, ← hx]
  simp only at hs
  rw [he] at hs
  have hlen : (iter (crashR d.left d.p) (k + 1) d.s).length = (iter (crashR d.left d.p) k d.s).length := by rw [iter, crashR_length]
  have hbb : ∀ j, j ≠ s → (W.setCells s (i * 32) (Lib.byteCells (b.take (keepOf d.left k)))).heap[j]? = W.heap[j]? := (setCells_same s _ _ _).2.2.2.2
  exact { head := by rw [hbb g h1.gs]; have := h1.head; unfold headV at this ⊢; simp only at this ⊢; rw [hlen]; exact this
          secs := hs
          pend := ownsRow_block h1.pend fun j hj => hbb j fun e => h1.ps (by rw [hj, e])
          pok := by have := h1.pok; simp only at this ⊢; rw [hlen]; exact this
          left := ownsRow_block h1.left fun j hj => hbb j fun e => h1.ls (by rw [hj, e])
          gs := h1.gs, pg := h1.pg, ps := h1.ps, lg := h1.lg, ls := h1.ls, lp := h1.lp }

def RelC (g s : Nat) (pv lv : Value) (d : Dk) (w : World) (i : Value) (wr : World) : Prop :=
  ∃ k : Nat, k ≤ d.p.length ∧ i = .int .i64 (k : Int) ∧ DiskM wr g s pv lv { d with s := iter (crashR d.left d.p) k d.s } ∧ Kept (fun k => k = g ∨ k = s) w wr

set_option maxHeartbeats 2000000 in
set_option maxRecDepth 100000 in
theorem crashes_not (g s : Nat) (pv lv : Value) (d : Dk) (w : World) (h : DiskM w g s pv lv d) (hh : d.hits = false) :
    Calls Tryd.prog 61 #[.pointer (some ⟨g, 0, none⟩)] w fun e w' => e = .returned (.bool false) ∧ Kept (fun _ => False) w w' := by
  obtain ⟨-, -, c2, c3, c4, -⟩ := h.cells
  clear h
  unfold Dk.hits at hh
  obtain ⟨at_, hat⟩ : ∃ z, z = d.at_ := ⟨_, rfl⟩
  obtain ⟨n, hn⟩ : ∃ z : Int, z = (d.n : Int) := ⟨_, rfl⟩
  obtain ⟨am, ham⟩ : ∃ z, z = d.armed := ⟨_, rfl⟩
  rw [← hat, ← hn, ← ham] at hh
  rw [← hat] at c4
  rw [← hn] at c2
  rw [← ham] at c3
  clear hat hn ham
  cases am
  · clear hh
    go_enter Tryd.func61, Tryd.ntmps61
    go_wp2_with fail
    go_quiet (fail)
    go_wp2_with fail
    go_ret
    exact ⟨rfl, rfl, rfl, rfl, Nat.le_refl _, fun _ _ _ => rfl⟩
  · have hlt : n < at_ := by simpa using hh
    clear hh
    go_enter Tryd.func61, Tryd.ntmps61
    go_wp2_with fail
    go_quiet (fail)
    go_wp2_with fail
    go_ret
    exact ⟨rfl, rfl, rfl, rfl, Nat.le_refl _, fun _ _ _ => rfl⟩

/-- The crash's last step. -/
theorem DiskM.downed {w : World} {g s : Nat} {pv lv : Value} {d : Dk} (h : DiskM w g s pv lv d) : DiskM (w.setCell ⟨g, 6, none⟩ (.bool true)) g s pv lv { d with down := true } :=
  h.turn 6 (.bool true) { d with down := true } rfl rfl rfl rfl

set_option maxHeartbeats 4000000 in
set_option maxRecDepth 100000 in
theorem crashes_hit (g s : Nat) (pv lv : Value) (d : Dk) (w : World) (h : DiskM w g s pv lv d) (hh : d.hits = true) :
    Calls Tryd.prog 61 #[.pointer (some ⟨g, 0, none⟩)] w fun e w' => e = .returned (.bool true) ∧ DiskM w' g s (.slice none 0 0) (.slice none 0 0) d.crashed ∧ Kept (fun k => k = g ∨ k = s) w w' := by
  obtain ⟨-, c1, c2, c3, c4, -⟩ := h.cells
  obtain ⟨a, c, rfl, hm, -⟩ := h.pend_at
  unfold maxLen at hm
  have HD := Lib.hid h
  clear h
  unfold Dk.hits at hh
  obtain ⟨at_, hat⟩ : ∃ z, z = d.at_ := ⟨_, rfl⟩
  obtain ⟨n, hn⟩ : ∃ z : Int, z = (d.n : Int) := ⟨_, rfl⟩
  obtain ⟨am, ham⟩ : ∃ z, z = d.armed := ⟨_, rfl⟩
  rw [← hat, ← hn, ← ham] at hh
  rw [← hat] at c4
  rw [← hn] at c2
  rw [← ham] at c3
  clear hat hn ham
  obtain ⟨rfl, hge⟩ : am = true ∧ at_ ≤ n := by simpa using hh
  clear hh
  go_enter Tryd.func61, Tryd.ntmps61
  go_wp2_with fail
  go_quiet (fail)
  go_wp2_with fail
  go_loopw [28] (fun i wr => RelC g s (.slice a d.p.length c) lv d w i wr) (fun i _ => d.p.length - (intOf i).toNat)
  case atStart => exact ⟨0, by omega, rfl, HD.out.far (D := fun _ => False) ⟨rfl, rfl, rfl, Nat.le_refl _, fun _ _ _ => rfl⟩ (fun _ _ h => h), ⟨rfl, rfl, rfl, Nat.le_refl _, fun _ _ _ => rfl⟩⟩
  case round =>
    clear c1 c2 c3 c4 hge
    obtain ⟨k, hk, rfl, hdk, hkw⟩ := hrel
    by_cases hlt : k < d.p.length
    · obtain ⟨a', c', hv, -, hp⟩ := hdk.pend_at
      simp only [Value.slice.injEq] at hv
      obtain ⟨rfl, -, rfl⟩ := hv
      obtain ⟨q, rfl, hqg, hqs, hql, hr⟩ := hp k hlt
      obtain ⟨c0, -⟩ := hdk.cells
      obtain ⟨x, hx⟩ : ∃ x, x = d.p[k] := ⟨_, rfl⟩
      obtain ⟨L, hL⟩ : ∃ L, L = iter (crashR d.left d.p) k d.s := ⟨_, rfl⟩
      have hok := hdk.pok d.p[k] (List.getElem_mem hlt)
      have hsec := hdk.secs
      simp only at hr hok hsec c0
      rw [← hx] at hr hok
      rw [← hL] at hok hsec c0
      obtain ⟨i, b⟩ := x
      simp only at hok
      obtain ⟨hi, hb⟩ := hok
      have hwl : (wcells (i, b)).length = 17 := wcells_length hb
      have h51 : (Tryd.prog.info? 92).map (·.size) = some (wcells (i, b)).length := by rw [sizeWrite, hwl]
      have h51b : (Tryd.prog.info? 92).map (·.size) = some (wcells (i, b)).toArray.size := by rw [sizeWrite, List.size_toArray, hwl]
      obtain ⟨cs, hcs⟩ : ∃ cs, cs = Lib.byteCells b := ⟨_, rfl⟩
      obtain ⟨kp, hkp⟩ : ∃ kp, kp = keepOf d.left k := ⟨_, rfl⟩
      have hkl : kp ≤ 16 := by rw [hkp]; exact keepOf_le _ _
      obtain ⟨ds, hds⟩ : ∃ ds, ds = Lib.byteCells (b.take kp) := ⟨_, rfl⟩
      have hHs : wr.heap.size ≠ s := by have := hsec.2.2.2.2.lt; omega
      have hgs := hdk.gs
      have HR := Lib.hid hr
      have HI := Lib.hid (And.intro h51 (And.intro h51b (show zeroW.size = (wcells (i, b)).toArray.size from (show 17 = (wcells (i, b)).toArray.size by rw [List.size_toArray, hwl]))))
      have HX := Lib.hid (And.intro hx (And.intro hL (And.intro hi hb)))
      have HW := Lib.hid (And.intro hcs (And.intro hkp hds))
      have HK := Lib.hid hkw
      have HDK := Lib.hid hdk
      obtain ⟨W1, hW1⟩ : ∃ W1, W1 = wr.alloc (.cells (wcells (i, b)).toArray 92) := ⟨_, rfl⟩
      have HKP := Lib.hid (show Calls Tryd.prog 72 #[.pointer (some ⟨g, 0, none⟩), .int .i64 (k : Int)] W1 fun e w' => e = .returned (.int .i64 (kp : Int)) ∧ W1 = w' by
        have h1 := hdk.far ((Kept.refl (fun _ => False) wr).alloc (.cells (wcells (i, b)).toArray 92)) (fun _ _ h => h)
        rw [← hW1] at h1
        rw [hkp]
        exact keep_m g s _ _ { d with s := iter (crashR d.left d.p) k d.s } k W1 h1)
      have HS := Lib.hid (show tearS g s L.length wr.heap.size (i : Int) (i * 32) cs W1.drew by
        rw [hW1]
        refine tearS.drew ⟨(World.cell?_alloc_lt _ _ _ hdk.glt).trans c0, by rw [new_cell]; rfl, fun j v hv => ?_, World.there_alloc (there_part hsec.2.1 16 (by omega)) _⟩
        rw [hcs] at hv
        rw [new_cell]
        simp only [wcells, List.getElem?_toArray]
        rw [Nat.add_comm, List.getElem?_cons_succ]; exact hv)
      have HG := Lib.hid (fun (W : World) (h : tearS g s L.length wr.heap.size (i : Int) (i * 32) cs W) => h.store hgs hHs ds)
      have HC := Lib.hid (And.intro (show ds.length = Nat.min 16 kp by rw [hds, bl, List.length_take, hb]; show min kp 16 = min 16 kp; omega) (And.intro (show ∀ v ∈ ds, v.oneCell' = true by rw [hds]; exact oneCell_bytes _)
        (show ∀ (W : World), tearS g s L.length wr.heap.size (i : Int) (i * 32) cs W → (∀ j v, ds[j]? = some v → W.cell? ((⟨wr.heap.size, 1, none⟩ : Addr).add j) = some v) ∧ W.there s (i * 32) ds.length from fun W hS => ⟨fun j v hv => by
            rw [Lib.add_plain]
            refine hS.2.2.1 j v ?_
            rw [hcs]
            have hj : j < ds.length := (List.getElem?_eq_some_iff.1 hv).1
            rw [hds, bl, List.length_take] at hj
            rw [hds] at hv
            simp only [Lib.byteCells, List.getElem?_map, List.getElem?_take] at hv ⊢
            rw [if_pos (by omega)] at hv
            exact hv, fun j hj => hS.2.2.2 j (by rw [hds, bl, List.length_take, hb] at hj; omega)⟩)))
      have hi0 : (0 : Int) ≤ (i : Int) := by omega
      have hi1 : (i : Int) < (L.length : Int) := by omega
      have hk0 : (0 : Int) ≤ (kp : Int) := by omega
      have hk1 : (kp : Int) ≤ (16 : Int) := by omega
      have HW1 := Lib.hid hW1
      clear hx hL hkw hdk hp hr hsec h51 h51b hwl hcs hgs hHs hkp hds hW1 hqg hqs hql c0
      go_wp2_with (first | (refine wpList_load_mid (by rfl) 92 (.tmp 31) (by rfl) q (k * 17) (by rfl) (wcells (i, b)) _ HR.out Tryd.underlying92 (by rfl) HI.out.1 ?_) | (refine wpList_store_new (by rfl) 92 (.tmp 4) (.tmp 32) (by rfl) wr zeroW (wcells (i, b)).toArray (by rfl) (by rfl) (by rfl) HI.out.2.1 HI.out.2.2 (all_wcells (i, b)) ?_))
      rw [← HW1.out]
      refine HKP.out.mono ?_
      rintro e w1 ⟨rfl, rfl⟩
      go_wp2_with fail
      go_region_held3 (fun W => W.cell? ⟨g, 0, none⟩ = some (.slice (some ⟨s, 0, none⟩) L.length L.length) ∧ W.cell? ⟨wr.heap.size, 0, none⟩ = some (.int .i64 (i : Int)) ∧ W.rangeAt wr.heap.size 1 cs ∧ W.there s (i * 32) 16) (first | assumption | exact HS.out | exact HG.out _ (by assumption))
        ((refine step_copy_cells (by rfl) (.tmp 45) (.tmp 47) 26 26 (by rfl) 5 Tryd.underlying26 sizeByte s (i * 32) kp 16 ⟨wr.heap.size, 1, none⟩ 16 16 (by rfl) (by rfl) ds HC.out.1 (HC.out.2.2 _ (by assumption)).1 (HC.out.2.2 _ (by assumption)).2 HC.out.2.1 ?_))
      have HF := Lib.hid (show DiskM (W1.drew.setCells s (i * 32) ds) g s (.slice (some ⟨q, 0, none⟩) d.p.length c) lv { d with s := iter (crashR d.left d.p) (k + 1) d.s } from by
        obtain ⟨hx, hL, hi, hb⟩ := HX.out
        obtain ⟨hcs, hkp, hds⟩ := HW.out
        have hi' : i < (iter (crashR d.left d.p) k d.s).length := by rw [← hL]; exact hi
        have := tear_round hlt hx HDK.out hi' hb W1.drew (by rw [HW1.out]; exact ((Kept.refl _ wr).alloc _).drew)
        rw [hds, hkp]; exact this)
      have HE := Lib.hid (show Kept (fun k => k = g ∨ k = s) w (W1.drew.setCells s (i * 32) ds) from (show Kept (fun k => k = g ∨ k = s) w W1.drew by rw [HW1.out]; exact (HK.out.alloc _).drew).setCells (.inl (.inr rfl)) _ _)
      go_wp2_with fail
      exact ⟨⟨k + 1, by omega, by go_num, HF.out, HE.out⟩, by simp [intOf]; omega⟩
    · obtain rfl : k = d.p.length := by omega
      have HK := Lib.hid hkw
      have HDR := Lib.hid (drop_m g s _ lv d.torn wr hdk)
      clear hdk hkw
      go_wp2_with fail
      refine HDR.out.mono ?_
      rintro e w1 ⟨rfl, hd1, hk1⟩
      have HA := Lib.hid (disarm_m g s _ lv _ w1 hd1)
      have HD1 := Lib.hid hd1.disarmed
      have HK1 := Lib.hid (HK.out.trans hk1 fun _ h => .inl h)
      clear hd1 hk1
      go_wp2_with fail
      refine HA.out.mono ?_
      rintro e w2 ⟨rfl, rfl⟩
      obtain ⟨w2, hw2⟩ : ∃ w2, w2 = ((w1.setCell ⟨g, 3, none⟩ (.bool false)).setCell ⟨g, 4, none⟩ (.int .i64 0)).setCell ⟨g, 5, none⟩ (.slice none 0 0) := ⟨_, rfl⟩
      have HK2 := Lib.hid (show Kept (fun k => k = g ∨ k = s) w w2 from by rw [hw2]; exact ((HK1.out.setCell (.inl (.inl rfl)) _).setCell (.inl (.inl rfl)) _).setCell (.inl (.inl rfl)) _)
      have hd2 := HD1.out
      rw [← hw2] at hd2 ⊢
      obtain ⟨-, -, -, -, -, -, c6, cf⟩ := hd2.cells
      have f6 := cf 6
      have HD2 := Lib.hid hd2.downed
      clear hd2 cf hw2 HD1 HA HDR
      go_wp2_with fail
      go_ret
      exact ⟨rfl, HD2.out, HK2.out.setCell (.inl (.inl rfl)) _⟩
end Go.Proofs.YtilplpjdbkipoaaDoor
