/-
  Proved: what Size, has, Ops, Down, keep, disarm answer of a disk, and of a nil one. Conditions: the disk lies in memory.
-/
import Derived.Test.YtilplpjdbkipoaaGreatDoorDiskMem
import Derived.WalkKit
import Derived.WalkSpells
import Derived.WalkLawsBesides
namespace Go.Proofs.YtilplpjdbkipoaaGreatDoor
open Go Go.RowKit DiskMath NetMem

set_option maxHeartbeats 800000 in
theorem size_m (g s : Nat) (pv lv : Value) (d : Dk) (w : World) (h : DiskM w g s pv lv d) :
    Calls Tryz.prog 21 #[.pointer (some ⟨g, 0, none⟩)] w fun e w' => e = .returned (.int .i64 (d.s.length : Int)) ∧ w = w' := by
  obtain ⟨c0, -⟩ := h.cells
  clear h
  go_enter Tryz.func21, Tryz.ntmps21
  go_wp2_with fail
  go_ret
  exact ⟨rfl, rfl⟩
theorem size_nil (w : World) :
    Calls Tryz.prog 21 #[.pointer none] w fun e w' => e = .returned (.int .i64 0) ∧ w = w' := by
  go_enter Tryz.func21, Tryz.ntmps21
  go_wp2_with fail
  go_ret
  exact ⟨rfl, rfl⟩

set_option maxHeartbeats 800000 in
theorem has_m (g s : Nat) (pv lv : Value) (d : Dk) (i : Int) (w : World) (h : DiskM w g s pv lv d) :
    Calls Tryz.prog 82 #[.pointer (some ⟨g, 0, none⟩), .int .i64 i] w fun e w' => e = .returned (.bool (d.has i)) ∧ w = w' := by
  have HS := Lib.hid (size_m g s pv lv d w h)
  clear h
  unfold Dk.has
  obtain ⟨n, hn⟩ : ∃ n : Int, n = (d.s.length : Int) := ⟨_, rfl⟩
  rw [← hn] at HS ⊢
  clear hn
  by_cases h0 : 0 ≤ i
  · go_enter Tryz.func82, Tryz.ntmps82
    go_wp2_with fail
    refine HS.out.mono ?_
    rintro e w1 ⟨rfl, rfl⟩
    go_wp2_with fail
    go_ret
    exact ⟨by simp [h0], rfl⟩
  · go_enter Tryz.func82, Tryz.ntmps82
    go_wp2_with fail
    go_ret
    exact ⟨by simp; omega, rfl⟩
theorem has_nil (i : Int) (w : World) :
    Calls Tryz.prog 82 #[.pointer none, .int .i64 i] w fun e w' => e = .returned (.bool false) ∧ w = w' := by
  have HS := Lib.hid (size_nil w)
  by_cases h0 : 0 ≤ i
  · go_enter Tryz.func82, Tryz.ntmps82
    go_wp2_with fail
    refine HS.out.mono ?_
    rintro e w1 ⟨rfl, rfl⟩
    go_wp2_with fail
    go_ret
    exact ⟨by simp; omega, rfl⟩
  · go_enter Tryz.func82, Tryz.ntmps82
    go_wp2_with fail
    go_ret
    exact ⟨rfl, rfl⟩

set_option maxHeartbeats 800000 in
theorem down_m (g s : Nat) (pv lv : Value) (d : Dk) (w : World) (h : DiskM w g s pv lv d) :
    Calls Tryz.prog 67 #[.pointer (some ⟨g, 0, none⟩)] w fun e w' => e = .returned (.bool d.down) ∧ w = w' := by
  obtain ⟨-, -, -, -, -, -, c6, -⟩ := h.cells
  clear h
  go_enter Tryz.func67, Tryz.ntmps67
  go_wp2_with fail
  go_ret
  exact ⟨rfl, rfl⟩
theorem down_nil (w : World) :
    Calls Tryz.prog 67 #[.pointer none] w fun e w' => e = .returned (.bool true) ∧ w = w' := by
  go_enter Tryz.func67, Tryz.ntmps67
  go_wp2_with fail
  go_ret
  exact ⟨rfl, rfl⟩

set_option maxHeartbeats 800000 in
theorem disarm_m (g s : Nat) (pv lv : Value) (d : Dk) (w : World) (h : DiskM w g s pv lv d) :
    Calls Tryz.prog 33 #[.pointer (some ⟨g, 0, none⟩)] w fun e w' => e = .returned (.tuple #[]) ∧ w' = ((w.setCell ⟨g, 3, none⟩ (.bool false)).setCell ⟨g, 4, none⟩ (.int .i64 0)).setCell ⟨g, 5, none⟩ (.slice none 0 0) := by
  obtain ⟨-, -, -, c3, c4, c5, -, cf⟩ := h.cells
  have f3 := cf 3
  have f4 := cf 4
  have f5 := cf 5
  clear h cf
  go_enter Tryz.func33, Tryz.ntmps33
  go_wp2_with fail
  go_end0
  exact ⟨rfl, rfl⟩

/-- What disarm makes of it. -/
theorem DiskM.disarmed {w : World} {g s : Nat} {pv lv : Value} {d : Dk} (h : DiskM w g s pv lv d) :
    DiskM (((w.setCell ⟨g, 3, none⟩ (.bool false)).setCell ⟨g, 4, none⟩ (.int .i64 0)).setCell ⟨g, 5, none⟩ (.slice none 0 0)) g s pv (.slice none 0 0) d.disarm := by
  have h1 := h.turn 3 (.bool false) { d with armed := false } rfl rfl rfl rfl
  have h2 := h1.turn 4 (.int .i64 0) { d with armed := false, at_ := 0 } rfl rfl rfl rfl
  have hsz : ∀ (w : World) v, w.heap.size ≤ (w.setCell ⟨g, 5, none⟩ v).heap.size := fun w v => by simp [World.setCell]
  have hb : ∀ (w : World) v k, k ≠ g → (w.setCell ⟨g, 5, none⟩ v).heap[k]? = w.heap[k]? := fun w v k hk => heap_setCell_ne w ⟨g, 5, none⟩ v k hk
  exact { head := by rw [heap_set h2.head]; rfl
          secs := h2.secs.keep (hb _ _ s (Ne.symm h.gs)) (hsz _ _)
          pend := ownsRow_block h2.pend fun k hk => hb _ _ k (fun e => h.pg (by rw [← e]; exact hk))
          pok := h.pok
          left := World.ownsRow_nil _ _ _ _
          gs := h.gs, pg := h.pg, ps := h.ps, lg := by simp [Value.ownBlock], ls := by simp [Value.ownBlock], lp := fun k hk => by simp [Value.ownBlock] at hk }

theorem left_cell {w : World} {lv : Value} {l : List Int} (h : w.ownsRow 0 59 1 lv l.length (l.map (Value.int .i64))) :
    ∃ a c, lv = .slice a l.length c ∧ l.length ≤ maxLen ∧ ∀ k (hk : k < l.length), ∃ b, a = some ⟨b, 0, none⟩ ∧ w.cell? ⟨b, k, none⟩ = some (.int .i64 l[k]) := by
  obtain ⟨h1, h2⟩ := h
  rcases id h2 with ⟨rfl, h0⟩ | ⟨g, cap, cur, rfl, -, hg, hl, hm, -⟩
  · exact ⟨none, 0, by rw [h0], by rw [h0]; exact Nat.zero_le _, fun k hk => by omega⟩
  · refine ⟨some ⟨g, 0, none⟩, cap, rfl, by omega, fun k hk => ⟨g, rfl, ?_⟩⟩
    have := World.ownsRow.cells ⟨h1, h2⟩ (g := g) rfl k (.int .i64 l[k]) (by simp [hk])
    rwa [Lib.add_plain, Nat.zero_add] at this

set_option maxHeartbeats 1600000 in
theorem keep_m (g s : Nat) (pv lv : Value) (d : Dk) (k : Nat) (w : World) (h : DiskM w g s pv lv d) :
    Calls Tryz.prog 83 #[.pointer (some ⟨g, 0, none⟩), .int .i64 (k : Int)] w fun e w' => e = .returned (.int .i64 (keepOf d.left k : Int)) ∧ w = w' := by
  obtain ⟨-, -, -, -, -, c5, -⟩ := h.cells
  obtain ⟨a, c, rfl, hm, hc⟩ := left_cell h.left
  clear h
  generalize d.left = l at c5 hm hc ⊢
  unfold maxLen at hm
  by_cases hk : k < l.length
  · obtain ⟨b, rfl, hcell⟩ := hc k hk
    obtain ⟨z, hz⟩ : ∃ z, z = l[k] := ⟨_, rfl⟩
    have hko : keepOf l k = (max 0 (min z 16)).toNat := by
      unfold keepOf
      rw [List.getD_eq_getElem?_getD, List.getElem?_eq_getElem hk, Option.getD_some, ← hz]
    rw [hko]
    rw [← hz] at hcell
    clear hc hz hko
    have hcase : ∀ n : Int, (z ≤ 0 ∧ n = 0 ∨ 0 < z ∧ z ≤ 16 ∧ n = z ∨ 16 < z ∧ n = 16) → ((max 0 (min z 16)).toNat : Int) = n := fun n hn => by omega
    rcases (show z ≤ 0 ∨ (0 < z ∧ z ≤ 16) ∨ 16 < z by omega) with h1 | ⟨h1, h2⟩ | h1
    · rw [hcase 0 (by omega)]
      clear hcase
      go_enter Tryz.func83, Tryz.ntmps83
      go_wp2_with fail
      all_goals
        go_ret
        exact ⟨by first | rfl | (congr 2; omega), rfl⟩
    · rw [hcase z (by omega)]
      clear hcase
      go_enter Tryz.func83, Tryz.ntmps83
      go_wp2_with fail
      all_goals
        go_ret
        exact ⟨by first | rfl | (congr 2; omega), rfl⟩
    · rw [hcase 16 (by omega)]
      clear hcase
      go_enter Tryz.func83, Tryz.ntmps83
      go_wp2_with fail
      all_goals
        go_ret
        exact ⟨by first | rfl | (congr 2; omega), rfl⟩
  · have hko : keepOf l k = 0 := by
      unfold keepOf
      rw [List.getD_eq_getElem?_getD, List.getElem?_eq_none (by omega)]
      rfl
    rw [hko]
    clear hc hko
    go_enter Tryz.func83, Tryz.ntmps83
    go_wp2_with fail
    go_ret
    exact ⟨rfl, rfl⟩
end Go.Proofs.YtilplpjdbkipoaaGreatDoor
