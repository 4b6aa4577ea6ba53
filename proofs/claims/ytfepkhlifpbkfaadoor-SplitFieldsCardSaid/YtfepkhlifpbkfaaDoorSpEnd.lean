/-
  Proved: contract of what ends the field that was begun. Conditions: the fields lie in memory; they are not too many.
-/
import Derived.Test.YtfepkhlifpbkfaaDoorSpMem
import Derived.Deep.AppendLies
import Derived.Deep.RegionLaw
namespace Go.Proofs.YtfepkhlifpbkfaaDoor
open Go Go.RowKit GlyphMath GlMath SpMath

theorem sp_set {w : World} {X : Nat} {C : Array Value} {t : TypeId} {fr : Nat × Nat} (h : w.heap[X]? = some (.cells C t fr)) (o : Nat) (u : Value) : (w.setCell ⟨X, o, none⟩ u).heap[X]? = some (.cells (C.setIfInBounds o u) t fr) := by simp [World.setCell, Array.getElem?_modify, h]
theorem sp_other {w : World} {X k : Nat} (h : k ≠ X) (o : Nat) (u : Value) : (w.setCell ⟨X, o, none⟩ u).heap[k]? = w.heap[k]? := Below.heap_setCell _ _ _ _ h
theorem sp_news (w : World) (a : Value) (t : TypeId) : ∀ j u, ([a] : List Value)[j]? = some u → (w.alloc (.cells #[a] t)).drew.cell? ((⟨w.heap.size, 0, none⟩ : Addr).add j) = some u := fun j u hu => World.news_of_block (heap_alloc_new w _) j u (by simpa using hu)
theorem sp_grown {w w1 : World} {o : Obj} {row : Option Nat} (hg : (w.alloc o).drew.grownBy w1 row) : ∀ k, k < w.heap.size → row ≠ some k → w1.heap[k]? = w.heap[k]? := fun k hk hn => (hg.block k (by show _ < (w.alloc o).heap.size; simp; omega) (fun e => hn e.symm)).trans (Below.heap_alloc _ _ _ hk)
theorem sp_below {w w1 : World} {o : Obj} {row : Option Nat} {B : Nat} (hB : B ≤ w.heap.size) (hg : (w.alloc o).drew.grownBy w1 row) (hr : ∀ k, row = some k → B ≤ k) : Below B w w1 :=
  ⟨hg.os, hg.tape, hg.output, by have h1 : (w.alloc o).heap.size ≤ w1.heap.size := hg.size; simp at h1; omega, fun k hk => sp_grown hg k (by omega) fun e => by have := hr k e; omega⟩
/-- What a call on fields says. -/
def Turns (f : FuncId) (args : Array Value) (B X : Nat) (w : World) (F : Fld) : Prop :=
  Calls Tryd.prog f (#[.pointer (some ⟨X, 0, none⟩)] ++ args) w fun e w' => e = .returned (.tuple #[]) ∧ StF w' B X F ∧ Below B w w' ∧ Kp w w'
set_option maxRecDepth 8000 in
set_option maxHeartbeats 1000000 in
theorem end_any (B X : Nat) (w : World) (f : Fld) (h : StF w B X f) (hB : B ≤ w.heap.size) (hl : f.ended.length ≤ 10000000) :
    Calls Tryd.prog 17 #[.pointer (some ⟨X, 0, none⟩)] w fun e w' => e = .returned (.tuple #[]) ∧ StF w' B X f.fin ∧ Below B w w' ∧ Kp w w' := by
  obtain ⟨ve, vl, vs, h⟩ := h
  obtain ⟨c0, c1, c2, hfz⟩ := fd_cell h.blk
  have HR := Lib.hid h
  cases hb : f.begun
  · rw [hb] at c2
    have HE := Lib.hid (show f.fin = f by unfold Fld.fin; rw [hb]; rfl)
    clear hfz hb h hl
    go_enter Tryd.func17, Tryd.ntmps17
    go_wp2_with fail
    refine bodyPost_ret (results_none rfl _ _ _) rfl ?_
    rw [HE.out]
    exact ⟨rfl, ⟨_, _, _, HR.out⟩, Below.refl _ _, Kp.refl _⟩
  · rw [hb] at c2
    have HBG := Lib.hid hb
    obtain ⟨p, c, rfl⟩ := own_shape h.row
    obtain ⟨N, hN⟩ : ∃ N, f.last.length = N := ⟨_, rfl⟩
    have HN := Lib.hid hN
    rw [hN] at c1
    obtain ⟨i0, hi1, hi2, hi3, hi4⟩ := info_parts infoRow
    have HI := Lib.hid (And.intro hi1 (And.intro hi2 (And.intro hi3 hi4)))
    obtain ⟨M, hM⟩ : ∃ M, vs.length = M := ⟨_, rfl⟩
    have HM := Lib.hid hM
    have HO := Lib.hid (show ∀ o, (w.alloc o).drew.ownsRow B 32 1 ve vs.length (vs.flatMap slC) from fun o => h.fs.row.alloc o)
    rw [hM] at HO
    have HL := Lib.hid (show M + 1 ≤ maxLen ∧ (M + 1) * 24 ≤ 140737488355328 from by have := h.fs.len; unfold maxLen; omega)
    have HBS := Lib.hid (show ∀ o, B ≤ (w.alloc o).drew.heap.size from fun o => by show _ ≤ (w.alloc o).heap.size; simp; omega)
    have HNW := Lib.hid (sp_news w (.slice p N c) 32)
    have H1C := Lib.hid (show ∀ u ∈ ([.slice p N c] : List Value), u.oneCell' = true from fun u hu => by rw [List.mem_singleton.1 hu]; rfl)
    have HSZ := Lib.hid (show ∀ o, (w.alloc o).drew.heap.size = w.heap.size + 1 from fun o => by show (w.alloc o).heap.size = _; simp)
    have HBL := Lib.hid (show FdBlk w X ve (.slice p N c) true from by have := h.blk; rwa [hb, hN] at this)
    have HLT := Lib.hid h.lt
    have HRL := Lib.hid (fun k hk => (World.ownsRow.lt h.fs.row k hk).1)
    have HAX := Lib.hid (show ve.ownBlock ≠ some X from fun e => own_off h.fs.row h.blk (fun c fz e => by cases e) e rfl)
    have HB0 := Lib.hid hB
    have k0 : ∀ o, (w.alloc o).cell? ⟨X, 0, none⟩ = some ve := fun o => (World.cell?_alloc_lt _ _ _ h.lt).trans c0
    clear h hi1 hi2 hi3 hi4 hl hN hM hb hB
    go_enter Tryd.func17, Tryd.ntmps17
    go_wp2_with fail
    go_region_law (refine step_append_lies _ (by rfl) (.tmp 11) (.tmp 16) 26 (by rfl) B 32 i0 (.slice none 0 0) 1 24 Tryd.underlying26 HI.out.1 HI.out.2.1 HI.out.2.2.1 HI.out.2.2.2 (by rfl) (by decide) ve M (vs.flatMap slC) (by rfl) (HO.out _) ⟨w.heap.size, 0, none⟩ 1 1 [.slice p N c] (by rfl) (by rfl) HNW.out H1C.out (by decide) HL.out.1 HL.out.2 (HBS.out _) (w.heap.size + 1) (HSZ.out _) ?_; intro g cap w1 hown hgrow hat hglt; have hb1 := (sp_grown hgrow X HLT.out HAX.out).trans HBL.out; obtain ⟨d0, d1, d2, dfz⟩ := fd_cell hb1; have f0 := dfz 0; have f1 := dfz 1; have f2 := dfz 2; have HOW := Lib.hid hown; have HGR := Lib.hid hgrow; have HB1 := Lib.hid hb1; clear hown hgrow hat hglt hb1 dfz)
    all_goals
      clear k0 c0 c1 c2 hfz
      have HWE := Lib.hid (show ∀ (u v t : Value), FdBlk w1 X ve (.slice p N c) true → (((w1.setCell ⟨X, 0, none⟩ u).setCell ⟨X, 1, none⟩ v).setCell ⟨X, 2, none⟩ t).heap[X]? = some (.cells #[u, v, t] 43 (0, 0)) from fun u v t h => sp_set (sp_set (sp_set h 0 u) 1 v) 2 t)
      go_wp2_with fail
      go_end0
      have hk : ∀ (u v t : Value) k, k < w.heap.size → k ≠ X → ve.ownBlock ≠ some k → (((w1.setCell ⟨X, 0, none⟩ u).setCell ⟨X, 1, none⟩ v).setCell ⟨X, 2, none⟩ t).heap[k]? = w.heap[k]? := fun u v t k h1 h2 h3 => (sp_other h2 _ _).trans ((sp_other h2 _ _).trans ((sp_other h2 _ _).trans (sp_grown HGR.out k h1 h3)))
      have hS := HR.out
      rw [HN.out] at hS
      refine ⟨rfl, ?_, ?_, Kp.of HR.out.blk HR.out.fs.row (.inl rfl) (hk _ _ _)⟩
      · have hT := StV.fin (w' := (((w1.setCell ⟨X, 0, none⟩ (.slice (some ⟨g, 0, none⟩) (M + 1) cap)).setCell ⟨X, 1, none⟩ (.slice none 0 0)).setCell ⟨X, 2, none⟩ (.bool false))) (g := g) (cap := cap) HR.out HBG.out (by rw [HM.out]; exact HWE.out _ _ _ HB1.out) (by
          rw [HM.out, HN.out]
          exact own_same (own_same (own_same HOW.out fun k e => sp_other (own_off HOW.out HB1.out (fun c fz e => by cases e) e) _ _) fun k e => sp_other (own_off HOW.out HB1.out (fun c fz e => by cases e) e) _ _) fun k e => sp_other (own_off HOW.out HB1.out (fun c fz e => by cases e) e) _ _) (hk _ _ _)
        exact hT
      · have hX := HR.out.low
        exact (((sp_below HB0.out HGR.out HRL.out).setCell (p := ⟨X, 0, none⟩) hX _).setCell (p := ⟨X, 1, none⟩) hX _).setCell (p := ⟨X, 2, none⟩) hX _
end Go.Proofs.YtfepkhlifpbkfaaDoor
