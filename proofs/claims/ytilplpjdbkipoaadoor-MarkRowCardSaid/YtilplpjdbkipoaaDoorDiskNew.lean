/-
  Proved: New: a disk of so many sectors, all of them 0. No conditions but the number of sectors.
-/
import Derived.Test.YtilplpjdbkipoaaDoorDiskRead
namespace Go.Proofs.YtilplpjdbkipoaaDoor
open Go Go.RowKit DiskMath NetMem

/-- A sector's cells, as they are made. -/
def zeroS : Array Value := Array.replicate 32 (.int .u8 0)
theorem info53 : (Tryd.prog.info? 94).map (fun i => (i.zero, i.size, i.bytes)) = some (some (.agg zeroS), 32, 32) := by kernel_rfl

theorem made_at (n j : Nat) (h : j < n) : (madeCells zeroS n)[j]? = some (.int .u8 0) := by
  have hz : ∀ k, k < 32 → zeroS[k]! = .int .u8 0 := fun k hk => by simp [zeroS, hk]
  have h32 : zeroS.size = 32 := by simp [zeroS]
  simp [madeCells, h, h32]
  exact hz _ (Nat.mod_lt _ (by omega))

theorem made_range (w : World) (n : Nat) (e : TypeId) (o : Nat) (ho : o + 16 ≤ n) : (w.alloc (.cells (madeCells zeroS n) e)).rangeAt w.heap.size o (Lib.byteCells (List.replicate 16 0)) := fun j v hv => by
  rw [new_cell]
  have hj : j < 16 := by have := (List.getElem?_eq_some_iff.1 hv).1; simpa [bl] using this
  rw [made_at n _ (by omega)]
  rw [bc_at _ j (by simpa using hj)] at hv
  rw [← hv, List.getElem_replicate]
  rfl

theorem new_disk (w : World) (n : Nat) (hn : n ≤ 4000) :
    DiskM ((w.alloc (.cells (madeCells zeroS (n * 32)) 94)).alloc (.cells (headV w.heap.size (.slice none 0 0) (.slice none 0 0) (Dk.new n)) 67)) (w.heap.size + 1) w.heap.size (.slice none 0 0) (.slice none 0 0) (Dk.new n) := by
  refine { head := ?_, secs := ⟨fun i hi => ?_, fun j hj => ⟨?_, ?_⟩, fun x hx => ?_, by simpa [Dk.new] using hn, (Laid.new _ _ _).alloc _⟩, pend := World.ownsRow_nil _ _ _ _, pok := fun x hx => (by cases hx), left := World.ownsRow_nil _ _ _ _, gs := by omega, pg := by simp [Value.ownBlock], ps := by simp [Value.ownBlock], lg := by simp [Value.ownBlock], ls := by simp [Value.ownBlock], lp := fun k hk => by simp [Value.ownBlock] at hk }
  · have := heap_alloc_new (w.alloc (.cells (madeCells zeroS (n * 32)) 94)) (.cells (headV w.heap.size (.slice none 0 0) (.slice none 0 0) (Dk.new n)) 67)
    simpa using this
  · have hi' : i < n := by simpa [Dk.new] using hi
    have e : (Dk.new n).s[i] = (List.replicate 16 0, List.replicate 16 0) := by simp [Dk.new]
    rw [e]
    exact ⟨World.rangeAt_alloc (made_range w (n * 32) _ (i * 32) (by omega)) _, World.rangeAt_alloc (made_range w (n * 32) _ (i * 32 + 16) (by omega)) _⟩
  · have hj' : j < n * 32 := by simp [Dk.new] at hj; omega
    rw [World.cell?_alloc_lt _ _ _ (by simp), new_cell, Nat.zero_add, made_at _ _ hj']
    rfl
  · rw [World.frozen?_alloc_past _ _ _ (by simp), new_free]
  · have : x = (List.replicate 16 0, List.replicate 16 0) := by
      simp only [Dk.new, List.mem_replicate] at hx
      exact hx.2
    rw [this]
    simp

set_option maxHeartbeats 1000000 in
theorem new_in (n : Nat) (hn : n ≤ 4000) (w : World) :
    Calls Tryd.prog 14 #[.int .i64 (n : Int)] w fun e w' => ∃ g s, e = .returned (.pointer (some ⟨g, 0, none⟩)) ∧ DiskM w' g s (.slice none 0 0) (.slice none 0 0) (Dk.new n) ∧ w.heap.size ≤ g ∧ w.heap.size ≤ s ∧ Below w.heap.size w w' := by
  obtain ⟨i0, hi, hz0, hz1, hz2⟩ := info_parts info53
  have hmk : ∀ w : World, (Instr.makeSlice 64 (.int .i64 (n : Int)) (.int .i64 (n : Int))).run Tryd.prog w = .ok (.slice (some ⟨w.heap.size, 0, none⟩) n n) (w.alloc (.cells (madeCells zeroS (n * 32)) 94)) := fun w => by
    have := run_make (P := Tryd.prog) w 64 94 i0 (.agg zeroS) Tryd.underlying64 hi hz0 .i64 .i64 n n (by omega) (Int.le_refl _) (by rw [hz2]; omega) (by omega)
    simpa [hz1, Value.cells] using this
  have HN := Lib.hid (new_disk w n hn)
  clear hi hz0 hz1 hz2
  go_enter Tryd.func14, Tryd.ntmps14
  go_wp2_with fail
  go_ret
  refine ⟨w.heap.size + 1, w.heap.size, rfl, ?_, by omega, by omega, ((Below.refl _ w).alloc (Nat.le_refl _) _).alloc (by simp) _⟩
  have e : headV w.heap.size (.slice none 0 0) (.slice none 0 0) (Dk.new n) = #[.slice (some ⟨w.heap.size, 0, none⟩) n n, .slice none 0 0, .int .i64 0, .bool false, .int .i64 0, .slice none 0 0, .bool false] := by
    simp [headV, Dk.new]
  have h := HN.out
  rw [e] at h
  exact h
theorem new_out (n : Int) (hn : n < 0 ∨ 4000 < n) (w : World) :
    Calls Tryd.prog 14 #[.int .i64 n] w fun e w' => e = .returned (.pointer none) ∧ w = w' := by
  by_cases h : n < 0
  · go_enter Tryd.func14, Tryd.ntmps14
    go_wp2_with fail
    go_ret
    exact ⟨rfl, rfl⟩
  · have h4 : 4000 < n := by omega
    clear hn
    go_enter Tryd.func14, Tryd.ntmps14
    go_wp2_with fail
    go_ret
    exact ⟨rfl, rfl⟩
end Go.Proofs.YtilplpjdbkipoaaDoor
