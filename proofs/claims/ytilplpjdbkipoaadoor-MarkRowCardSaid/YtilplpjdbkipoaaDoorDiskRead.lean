/-
  Proved: Read, Restart, New: a sector's bytes are new memory; a disk started anew; a new disk. Conditions: the disk lies in memory.
-/
import Derived.Test.YtilplpjdbkipoaaDoorDiskCrash
namespace Go.Proofs.YtilplpjdbkipoaaDoor
open Go Go.RowKit DiskMath NetMem

theorem info5 : (Tryd.prog.info? 5).map (fun i => (i.zero, i.size, i.bytes)) = some (some (.int .u8 0), 1, 1) := by kernel_rfl

/-- slices.Clone of bytes that can be read. -/
theorem clone_bytes (p : Option Addr) (c : Nat) (l : List UInt8) (w : World) (h : Row w (.slice p l.length c) l) (hp : p ≠ none) (hm : l.length ≤ 1000000) :
    Calls Tryd.prog 74 #[.slice p l.length c] w fun e w' => ∃ v, e = .returned v ∧ Own w' w.heap.size v l ∧ Below w.heap.size w w' := by
  obtain ⟨i0, hi, hz0, hz1, hz2⟩ := info_parts info5
  obtain ⟨a, rfl⟩ := Option.ne_none_iff_exists'.1 hp
  have ho1 : Own (w.alloc (.cells #[] 5)) w.heap.size (.slice (some ⟨w.heap.size, 0, none⟩) 0 0) [] := Own.made w 5 [] 0 (by simp) (by simp [maxLen]) #[] rfl (fun j h => by simp at h) _ (Nat.le_refl _)
  have hb1 : Below w.heap.size w (w.alloc (.cells #[] 5)) := (Below.refl _ w).alloc (Nat.le_refl _) _
  have hsrc := Row.src (P := Tryd.prog) (h.below hb1) Tryd.underlying26
  have HO := Lib.hid (And.intro ho1 (And.intro hb1 hsrc))
  have q := fun (w : World) (a : Option Addr) (n c n' c' : Nat) => Lib.run_eql_slice_nil (P := Tryd.prog) w _ _ a n c n' c' Tryd.underlying26
  clear ho1 hb1 hsrc h hp
  go_enter Tryd.func74, Tryd.ntmps74
  go_wp2_with (at_builtin; refine wpList_append_bytes _ rfl _ _ 26 26 rfl 5 i0 Tryd.underlying26 hi hz0 hz1 hz2 w.heap.size _ _ rfl HO.out.1 _ l rfl HO.out.2.2 ?lim ?hB ?_)
  case lim => simp; omega
  case hB => exact HO.out.2.1.size
  intro v' w' ho3 hg3 hnil
  have HB := Lib.hid (And.intro ho3 (HO.out.2.1.grown hg3 HO.out.2.1.size (fun k hk => by simp [Value.ownBlock] at hk; omega)))
  clear ho3 hg3 hnil
  go_wp2_with fail
  go_ret
  exact ⟨_, rfl, by simpa using HB.out.1, HB.out.2⟩

theorem range_row {w : World} {b o : Nat} {l : List UInt8} (h : w.rangeAt b o (Lib.byteCells l)) (cap : Nat) (hc : l.length ≤ cap) (hm : cap ≤ 1000000) : Row w (.slice (some ⟨b, o, none⟩) l.length cap) l :=
  ⟨_, cap, rfl, hc, by unfold maxLen; omega, fun _ => ⟨b, o, rfl, fun i hi => h i _ (bc_at l i hi)⟩⟩

set_option maxHeartbeats 1000000 in
theorem read_in (g s : Nat) (pv lv : Value) (d : Dk) (i : Nat) (w : World) (h : DiskM w g s pv lv d) (hi : i < d.s.length) :
    Calls Tryd.prog 64 #[.pointer (some ⟨g, 0, none⟩), .int .i64 (i : Int)] w fun e w' => ∃ v, e = .returned v ∧ Own w' w.heap.size v d.s[i].2 ∧ Below w.heap.size w w' := by
  have HH := Lib.hid (has_m g s pv lv d i w h)
  rw [show d.has i = true by simp [Dk.has, hi]] at HH
  obtain ⟨c0, -⟩ := h.cells
  obtain ⟨l, hl⟩ : ∃ l, l = d.s[i].2 := ⟨_, rfl⟩
  have hl16 : l.length = 16 := by rw [hl]; exact (h.secs.2.2.1 _ (List.getElem_mem hi)).2
  have hr := range_row (h.secs.1 i hi).2 16 (by rw [← hl, hl16]; exact Nat.le_refl _) (by omega)
  rw [← hl] at hr ⊢
  have HC := Lib.hid (clone_bytes _ 16 l w hr (by simp) (by omega))
  rw [hl16] at HC
  have hi0 : (0 : Int) ≤ (i : Int) := by omega
  obtain ⟨N, hN⟩ : ∃ N, N = d.s.length := ⟨_, rfl⟩
  rw [← hN] at c0
  have hi1 : (i : Int) < (N : Int) := by omega
  clear hr hl h hl16 hN
  go_enter Tryd.func64, Tryd.ntmps64
  go_wp2_with fail
  refine HH.out.mono ?_
  rintro e w1 ⟨rfl, rfl⟩
  go_wp2_with fail
  refine HC.out.mono ?_
  rintro e w1 ⟨v, rfl, ho, hb⟩
  have HO := Lib.hid (And.intro ho hb)
  clear ho hb
  go_wp2_with fail
  go_ret
  exact ⟨_, rfl, HO.out.1, HO.out.2⟩
theorem read_out (g s : Nat) (pv lv : Value) (d : Dk) (i : Int) (w : World) (h : DiskM w g s pv lv d) (hi : d.has i = false) :
    Calls Tryd.prog 64 #[.pointer (some ⟨g, 0, none⟩), .int .i64 i] w fun e w' => e = .returned (.slice none 0 0) ∧ w = w' := by
  have HH := Lib.hid (has_m g s pv lv d i w h)
  rw [hi] at HH
  clear h hi
  go_enter Tryd.func64, Tryd.ntmps64
  go_wp2_with fail
  refine HH.out.mono ?_
  rintro e w1 ⟨rfl, rfl⟩
  go_wp2_with fail
  go_ret
  exact ⟨rfl, rfl⟩
theorem read_nil (i : Int) (w : World) :
    Calls Tryd.prog 64 #[.pointer none, .int .i64 i] w fun e w' => e = .returned (.slice none 0 0) ∧ w = w' := by
  go_enter Tryd.func64, Tryd.ntmps64
  go_wp2_with fail
  refine (has_nil i w).mono ?_
  rintro e w1 ⟨rfl, rfl⟩
  go_wp2_with fail
  go_ret
  exact ⟨rfl, rfl⟩

set_option maxHeartbeats 1000000 in
theorem restart_m (g s : Nat) (pv lv : Value) (d : Dk) (w : World) (h : DiskM w g s pv lv d) :
    Calls Tryd.prog 15 #[.pointer (some ⟨g, 0, none⟩)] w fun e w' => e = .returned (.tuple #[]) ∧ DiskM w' g s (.slice none 0 0) (.slice none 0 0) d.restart ∧ Kept (fun k => k = g ∨ k = s) w w' := by
  have HD := Lib.hid (drop_m g s pv lv d w h)
  clear h
  go_enter Tryd.func15, Tryd.ntmps15
  go_wp2_with fail
  refine HD.out.mono ?_
  rintro e w1 ⟨rfl, hd1, hk1⟩
  have HA := Lib.hid (disarm_m g s _ lv _ w1 hd1)
  have HD1 := Lib.hid hd1.disarmed
  have HK1 := Lib.hid hk1
  clear hd1 hk1
  go_wp2_with fail
  refine HA.out.mono ?_
  rintro e w2 ⟨rfl, rfl⟩
  obtain ⟨w2, hw2⟩ : ∃ w2, w2 = ((w1.setCell ⟨g, 3, none⟩ (.bool false)).setCell ⟨g, 4, none⟩ (.int .i64 0)).setCell ⟨g, 5, none⟩ (.slice none 0 0) := ⟨_, rfl⟩
  have HK2 := Lib.hid (show Kept (fun k => k = g ∨ k = s) w w2 from by rw [hw2]; exact ((HK1.out.setCell (.inl (.inl rfl)) _).setCell (.inl (.inl rfl)) _).setCell (.inl (.inl rfl)) _)
  have hd2 := HD1.out
  rw [← hw2] at hd2 ⊢
  obtain ⟨-, -, c2, -, -, -, c6, cf⟩ := hd2.cells
  have f6 := cf 6
  have f2 := cf 2
  have HD2 := Lib.hid hd2
  clear hd2 cf hw2 HD1 HA HD
  go_wp2_with fail
  go_end0
  refine ⟨rfl, ?_, (HK2.out.setCell (.inl (.inl rfl)) _).setCell (.inl (.inl rfl)) _⟩
  exact (HD2.out.turn 6 (.bool false) { d.drop.disarm with down := false } rfl rfl rfl rfl).turn 2 (.int .i64 0) d.restart rfl rfl rfl rfl
theorem restart_nil (w : World) :
    Calls Tryd.prog 15 #[.pointer none] w fun e w' => e = .returned (.tuple #[]) ∧ w = w' := by
  go_enter Tryd.func15, Tryd.ntmps15
  go_wp2_with fail
  refine bodyPost_ret (results_none rfl _ _ _) rfl ?_
  exact ⟨rfl, rfl⟩
end Go.Proofs.YtilplpjdbkipoaaDoor
