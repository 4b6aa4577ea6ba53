/-
  Proved: drop forgets what is pending: each sector is as it is flushed. Conditions: the disk lies in memory.
-/
import Derived.Test.YtilplpjdbkipoaaGreatDoorDiskLaws
import Derived.WalkSpells
import Derived.WalkLawsBesides
namespace Go.Proofs.YtilplpjdbkipoaaGreatDoor
open Go Go.RowKit DiskMath NetMem

def RelD (g s : Nat) (pv lv : Value) (d : Dk) (w : World) (i : Value) (wr : World) : Prop :=
  ∃ k : Nat, k ≤ d.p.length ∧ i = .int .i64 (k : Int) ∧ DiskM wr g s pv lv { d with s := iter (dropR d.p) k d.s } ∧ Kept (fun k => k = g ∨ k = s) w wr

/-- What the round of a loop over what is pending holds: the head's first cell, the write's place, the bytes that are read, the cells that are written. -/
def secS (g s N H : Nat) (i : Int) (o o' : Nat) (cs : List Value) (W : World) : Prop :=
  W.cell? ⟨g, 0, none⟩ = some (.slice (some ⟨s, 0, none⟩) N N) ∧ W.cell? ⟨H, 0, none⟩ = some (.int .i64 i) ∧ W.rangeAt s o cs ∧ W.there s o' 16
theorem secS.store {g s N H : Nat} {i : Int} {o o' : Nat} {cs : List Value} {W : World} (h : secS g s N H i o o' cs W) (hg : g ≠ s) (hH : H ≠ s) (hl : cs.length = 16) (ho : o + 16 ≤ o') : secS g s N H i o o' cs (W.setCells s o' cs) :=
  ⟨by rw [World.cell?_setCells_out s cs o' W _ (fun e => absurd e hg)]; exact h.1, by rw [World.cell?_setCells_out s cs o' W _ (fun e => absurd e hH)]; exact h.2.1,
    World.rangeAt_setCells_apart h.2.2.1 _ _ _ (by omega), World.there_setCells h.2.2.2 _ _ _⟩
theorem secS.drew {g s N H : Nat} {i : Int} {o o' : Nat} {cs : List Value} {W : World} (h : secS g s N H i o o' cs W) : secS g s N H i o o' cs W.drew := by
  unfold secS at h ⊢
  simpa using h
/-- A round of drop, done. -/
theorem drop_round {wr : World} {g s : Nat} {pv lv : Value} {d : Dk} {k : Nat} {i : Nat} {b : List UInt8} (hlt : k < d.p.length) (hx : (i, b) = d.p[k]) (h : DiskM wr g s pv lv { d with s := iter (dropR d.p) k d.s })
    (hi : i < (iter (dropR d.p) k d.s).length) (W : World) (hW : Kept (fun _ => False) wr W) :
    DiskM (W.setCells s (i * 32 + 16) (Lib.byteCells (iter (dropR d.p) k d.s)[i].1)) g s pv lv { d with s := iter (dropR d.p) (k + 1) d.s } := by
  have h1 := h.far hW fun _ _ hf => hf
  have hl := (h1.secs.2.2.1 _ (List.getElem_mem hi)).1
  have hs := h1.secs.put2 i hi (iter (dropR d.p) k d.s)[i].1 hl
  have he : (iter (dropR d.p) k d.s).modify i (fun y => (y.1, (iter (dropR d.p) k d.s)[i].1)) = iter (dropR d.p) (k + 1) d.s := by
    show _ = dropR d.p k (iter (dropR d.p) k d.s)
    unfold dropR
    rw [List.getElem?_eq_getElem hlt, ← hx]
    simp only
    apply List.ext_getElem
    · simp
    · intro j h1 h2
      rw [List.getElem_modify, List.getElem_modify]
      split
      · rename_i e; subst e; rfl
      · rfl
  simp only at hs
  rw [he] at hs
  have hlen : (iter (dropR d.p) (k + 1) d.s).length = (iter (dropR d.p) k d.s).length := by rw [iter, dropR_length]
  have hb : ∀ j, j ≠ s → (W.setCells s (i * 32 + 16) (Lib.byteCells (iter (dropR d.p) k d.s)[i].1)).heap[j]? = W.heap[j]? := (setCells_same s _ _ _).2.2.2.2
  exact { head := by rw [hb g h1.gs]; have := h1.head; unfold headV at this ⊢; simp only at this ⊢; rw [hlen]; exact this
          secs := hs
          pend := ownsRow_block h1.pend fun j hj => hb j fun e => h1.ps (by rw [hj, e])
          pok := by have := h1.pok; simp only at this ⊢; rw [hlen]; exact this
          left := ownsRow_block h1.left fun j hj => hb j fun e => h1.ls (by rw [hj, e])
          gs := h1.gs, pg := h1.pg, ps := h1.ps, lg := h1.lg, ls := h1.ls, lp := h1.lp }

set_option maxHeartbeats 2000000 in
set_option maxRecDepth 100000 in
theorem drop_m (g s : Nat) (pv lv : Value) (d : Dk) (w : World) (h : DiskM w g s pv lv d) :
    Calls Tryz.prog 32 #[.pointer (some ⟨g, 0, none⟩)] w fun e w' => e = .returned (.tuple #[]) ∧ DiskM w' g s (.slice none 0 0) lv d.drop ∧ Kept (fun k => k = g ∨ k = s) w w' := by
  obtain ⟨-, c1, -⟩ := h.cells
  obtain ⟨a, c, rfl, hm, -⟩ := h.pend_at
  unfold maxLen at hm
  have HD := Lib.hid h
  clear h
  go_enter Tryz.func32, Tryz.ntmps32
  go_wp2_with fail
  go_loopw [9] (fun i wr => RelD g s (.slice a d.p.length c) lv d w i wr) (fun i _ => d.p.length - (intOf i).toNat)
  case atStart => exact ⟨0, by omega, rfl, HD.out, Kept.refl _ _⟩
  case round =>
    obtain ⟨k, hk, rfl, hdk, hkw⟩ := hrel
    by_cases hlt : k < d.p.length
    · obtain ⟨a', c', hv, -, hp⟩ := hdk.pend_at
      simp only [Value.slice.injEq] at hv
      obtain ⟨rfl, -, rfl⟩ := hv
      obtain ⟨q, rfl, hqg, hqs, hql, hr⟩ := hp k hlt
      obtain ⟨c0, -⟩ := hdk.cells
      obtain ⟨x, hx⟩ : ∃ x, x = d.p[k] := ⟨_, rfl⟩
      obtain ⟨L, hL⟩ : ∃ L, L = iter (dropR d.p) k d.s := ⟨_, rfl⟩
      have hok := hdk.pok d.p[k] (List.getElem_mem hlt)
      have hsec := hdk.secs
      simp only at hr hok hsec c0
      rw [← hx] at hr hok
      rw [← hL] at hok hsec c0
      have HX := Lib.hid hx
      have HL := Lib.hid hL
      have HK := Lib.hid hkw
      have HDK := Lib.hid hdk
      obtain ⟨i, b⟩ := x
      simp only at hok
      obtain ⟨hi, hb⟩ := hok
      have hwl : (wcells (i, b)).length = 17 := wcells_length hb
      have h51 : (Tryz.prog.info? 89).map (·.size) = some (wcells (i, b)).length := by rw [sizeWrite, hwl]
      have h51b : (Tryz.prog.info? 89).map (·.size) = some (wcells (i, b)).toArray.size := by rw [sizeWrite, List.size_toArray, hwl]
      have HR := Lib.hid hr
      have HI := Lib.hid (And.intro h51 (And.intro h51b hwl))
      have HZ := Lib.hid (show zeroW.size = (wcells (i, b)).toArray.size from (show 17 = (wcells (i, b)).toArray.size by rw [List.size_toArray, hwl]))
      obtain ⟨cs, hcs⟩ : ∃ cs, cs = Lib.byteCells L[i].1 := ⟨_, rfl⟩
      have hcl : cs.length = 16 := by rw [hcs, bl]; exact (hsec.2.2.1 _ (List.getElem_mem hi)).1
      have hc1 : ∀ v ∈ cs, v.oneCell' = true := by rw [hcs]; exact oneCell_bytes _
      have h49 := Tryz.underlying87
      have h49s : (Tryz.prog.info? 87).map (·.size) = some cs.length := by rw [sizeContent, hcl]
      have hHs : wr.heap.size ≠ s := by have := hsec.2.2.2.2.lt; omega
      have hgs := hdk.gs
      have HS := Lib.hid (show secS g s L.length wr.heap.size (i : Int) (i * 32) (i * 32 + 16) cs (wr.alloc (.cells (wcells (i, b)).toArray 89)).drew from
        secS.drew ⟨(World.cell?_alloc_lt _ _ _ hdk.glt).trans c0, by rw [new_cell]; rfl, World.rangeAt_alloc (by rw [hcs]; exact (hsec.1 i hi).1) _, World.there_alloc (there_part hsec.2.1 16 (by omega)) _⟩)
      have HG := Lib.hid (fun (W : World) (h : secS g s L.length wr.heap.size (i : Int) (i * 32) (i * 32 + 16) cs W) => h.store hgs hHs hcl (by omega))
      have HC := Lib.hid hcs
      have hi0 : (0 : Int) ≤ (i : Int) := by omega
      have hi1 : (i : Int) < (L.length : Int) := by omega
      clear hx hL hkw hdk hp hr hsec h51 h51b hwl hcs hgs hHs
      go_wp2_with (first | (refine wpList_load_mid (by rfl) 89 (.tmp 11) (by rfl) q (k * 17) (by rfl) (wcells (i, b)) _ HR.out Tryz.underlying89 (by rfl) HI.out.1 ?_) | (refine wpList_store_new (by rfl) 89 (.tmp 3) (.tmp 12) (by rfl) wr zeroW (wcells (i, b)).toArray (by rfl) (by rfl) (by rfl) HI.out.2.1 HZ.out (all_wcells (i, b)) ?_))
      go_region_held3 (fun W => W.cell? ⟨g, 0, none⟩ = some (.slice (some ⟨s, 0, none⟩) L.length L.length) ∧ W.cell? ⟨wr.heap.size, 0, none⟩ = some (.int .i64 (i : Int)) ∧ W.rangeAt s (i * 32) cs ∧ W.there s (i * 32 + 16) 16) (first | assumption | exact HS.out | exact HG.out _ (by assumption)) (fail)
      have HF := Lib.hid (show DiskM (((wr.alloc (.cells (wcells (i, b)).toArray 89)).drew).setCells s (i * 32 + 16) cs) g s (.slice (some ⟨q, 0, none⟩) d.p.length c) lv { d with s := iter (dropR d.p) (k + 1) d.s } from by
        have hi' : i < (iter (dropR d.p) k d.s).length := by rw [← HL.out]; exact hi
        have := drop_round hlt HX.out HDK.out hi' (wr.alloc (.cells (wcells (i, b)).toArray 89)).drew ((Kept.refl _ wr).alloc _).drew
        have e : cs = Lib.byteCells (iter (dropR d.p) k d.s)[i].1 := by rw [HC.out]; congr 2; simp only [HL.out]
        rw [e]; exact this)
      have HE := Lib.hid (show Kept (fun k => k = g ∨ k = s) w (((wr.alloc (.cells (wcells (i, b)).toArray 89)).drew).setCells s (i * 32 + 16) cs) from ((HK.out.alloc _).drew).setCells (.inl (.inr rfl)) _ _)
      go_wp2_with fail
      exact ⟨⟨k + 1, by omega, by go_num, HF.out, HE.out⟩, by simp [intOf]; omega⟩
    · obtain rfl : k = d.p.length := by omega
      obtain ⟨-, c1', -, -, -, -, -, cf⟩ := hdk.cells
      have f1 := cf 1
      have HDK := Lib.hid hdk
      have HK := Lib.hid hkw
      clear hdk hkw cf
      go_wp2_with fail
      go_end0
      exact ⟨rfl, HDK.out.forget, HK.out.setCell (.inl (.inl rfl)) _⟩
end Go.Proofs.YtilplpjdbkipoaaGreatDoor
