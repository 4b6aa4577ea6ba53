/-
  Proved: the walk of the law SlotFull: what does not fit is refused, and what was there stays; so it answers true and changes nothing that was there. Conditions: the bytes can be read.
-/
import Derived.Test.YtffjdpkgcgdfdaaSlotKnown
namespace Go.Proofs.Ytffjdpkgcgdfdaa
open Go Go.RowKit DiskMath NetMem SpanMath SumMath

theorem need100 {b : List UInt8} (h : b.length ≤ 100) : need b.length ≤ 15 := by unfold need cnt; omega
def zeros (n : Nat) : List UInt8 := List.replicate n 0
theorem zeros_length (n : Nat) : (zeros n).length = n := by simp [zeros]
theorem full_save1 (b : List UInt8) (hb : b.length ≤ 100) : slotSave (Dk.new 40) 1 b = (0, saved (Dk.new 40) 1 b) := save_well (Dk.new 40) 1 b rfl rfl (by omega) (by omega) (need100 hb)
theorem full_load1 (b : List UInt8) (hb : b.length ≤ 100) : slotLoad (saved (Dk.new 40) 1 b) = some (1, b) := load_one 40 1 b (by omega) (by omega) (by omega) (need100 hb)
theorem full_room (b : List UInt8) : room (saved (Dk.new 40) 1 b) = 15 := by rw [saved_room]; decide
theorem full_no (b : List UInt8) (n : Nat) (h : 224 < n) : slotSave (saved (Dk.new 40) 1 b) 2 (zeros n) = (4, saved (Dk.new 40) 1 b) := by
  unfold slotSave
  rw [if_neg (by omega), full_room, zeros_length, if_pos (by unfold need cnt; omega)]
theorem full_ok (b : List UInt8) (n : Nat) (h : n ≤ 224) : slotSave (saved (Dk.new 40) 1 b) 2 (zeros n) = (0, saved (saved (Dk.new 40) 1 b) 2 (zeros n)) :=
  save_well _ 2 (zeros n) (by rw [saved_down]; rfl) (by rw [saved_armed]; rfl) (by omega) (by omega) (by rw [full_room, zeros_length]; unfold need cnt; omega)
theorem full_load2 (b : List UInt8) (hb : b.length ≤ 100) (n : Nat) (h : n ≤ 224) : slotLoad (saved (saved (Dk.new 40) 1 b) 2 (zeros n)) = some (2, zeros n) :=
  load_two 40 b (zeros n) (need100 hb) (by rw [zeros_length]; unfold need cnt; omega) (by omega) (by rw [zeros_length]; omega)
theorem full_arg (d : Dk) : slotSave d 0 [] = (1, d) := by
  unfold slotSave
  rw [if_pos (by omega)]

theorem infoU8 : (Try.prog.info? 5).map (fun i => (i.zero, i.size, i.bytes)) = some (some (.int .u8 0), 1, 1) := by kernel_rfl
theorem made_zeros (w : World) (n : Nat) (hn : n ≤ maxLen) (e : TypeId) : NetMem.Own (w.alloc (.cells (madeCells #[.int .u8 0] n) e)) w.heap.size (.slice (some ⟨w.heap.size, 0, none⟩) n n) (zeros n) := by
  have hz : ∀ j, j < n → (madeCells #[Value.int .u8 0] n)[j]? = some (.int .u8 0) := fun j hj => by
    simp [madeCells, hj, Nat.mod_one]
  refine .inr ⟨w.heap.size, n, by rw [zeros_length], Nat.le_refl _, by simp, by rw [zeros_length]; exact Nat.le_refl _, hn, fun j hj => ⟨?_, ?_⟩, fun j hj => ?_⟩
  · rw [new_cell, hz j hj]; rfl
  · rw [new_free]
  · have hj' : j < n := by rwa [zeros_length] at hj
    rw [new_cell, hz j hj']
    simp [zeros]

set_option maxHeartbeats 2000000 in
theorem full_out (n : Int) (p : Option Addr) (m c : Nat) (w : World) (hm : m ≤ 9223372036854775807) (h : n < 0 ∨ 400 < n ∨ 100 < m) :
    Calls Try.prog 5 #[.int .i64 n, .slice p m c] w fun e w' => e = .returned (.bool true) ∧ Below w.heap.size w w' := by
  have main : (n < 0) ∨ (0 ≤ n ∧ 400 < n) ∨ (0 ≤ n ∧ n ≤ 400 ∧ (100 : Int) < (m : Int)) := by omega
  clear h
  rcases main with g1 | ⟨g1, g2⟩ | ⟨g1, g2, g3⟩
  all_goals
    go_enter Try.func5, Try.ntmps5
    go_wp2_with fail
    refine (new_st 40 (by omega) 40 rfl w).mono ?_
    rintro e w1 ⟨g, rfl, h1⟩
    have H1 := Lib.hid h1
    clear h1
    go_wp2_with fail
    go_ret
    exact ⟨rfl, H1.out.old⟩

set_option maxHeartbeats 4000000 in
set_option maxRecDepth 100000 in
theorem full_in (n : Nat) (p : Option Addr) (c : Nat) (b : List UInt8) (w : World) (hr : Row w (.slice p b.length c) b) (hn : n ≤ 400) (hb : b.length ≤ 100) :
    Calls Try.prog 5 #[.int .i64 (n : Int), .slice p b.length c] w fun e w' => e = .returned (.bool true) ∧ Below w.heap.size w w' := by
  have hmk : ∀ w : World, (Instr.makeSlice 27 (.int .i64 (n : Int)) (.int .i64 (n : Int))).run Try.prog w = .ok (.slice (some ⟨w.heap.size, 0, none⟩) n n) (w.alloc (.cells (madeCells #[.int .u8 0] n) 5)) := fun w => by
    obtain ⟨i0, hi, hz0, hz1, hz2⟩ := info_parts infoU8
    have := run_make (P := Try.prog) w 27 5 i0 (.int .u8 0) Try.underlying27 hi hz0 .i64 .i64 n n (by omega) (Int.le_refl _) (by rw [hz2]; omega) (by omega)
    simpa [hz1, Value.cells] using this
  have HR := Lib.hid (And.intro hr (And.intro hn hb))
  obtain ⟨sb, hsb⟩ : ∃ sb : ByteArray, (⟨b.toArray⟩ : ByteArray) = sb := ⟨_, rfl⟩
  have HSB := Lib.hid hsb
  have g0 : (0 : Int) ≤ (n : Int) := by omega
  have g1 : (n : Int) ≤ 400 := by omega
  have g2 : (b.length : Int) ≤ 100 := by omega
  have HZ := Lib.hid (zeros_length n)
  have HN0 := Lib.hid (show Row w (.slice none 0 0) ([] : List UInt8) from ⟨none, 0, rfl, Nat.le_refl _, by simp [maxLen], fun h => absurd h (Nat.lt_irrefl 0)⟩)
  have HS1 := Lib.hid (full_save1 b hb)
  by_cases hf : 224 < n
  · have g3 : (224 : Int) < (n : Int) := by omega
    have HS2 := Lib.hid (full_no b n hf)
    have HL := Lib.hid (full_load1 b hb)
    clear hr hn hb hsb hf
    go_enter Try.func5, Try.ntmps5
    go_wp2_with fail
    refine (new_st 40 (by omega) 40 rfl w).mono ?_
    rintro e w1 ⟨g, rfl, h1⟩
    have H1 := Lib.hid h1
    clear h1
    go_wp2_with fail
    refine (save_st H1.out 1 HR.out.1 HS1.out (by have := HR.out.2.2; omega) (by have := HR.out.2.2; show 0 + b.length + 8 < _; omega) (by have := HR.out.2.2; show 0 + b.length + 8 < _; omega)).mono ?_
    rintro e w2 ⟨rfl, h2⟩
    have hb2 : Below w2.heap.size w2 (w2.alloc (.cells (madeCells #[.int .u8 0] n) 5)) := (Below.refl _ _).alloc (Nat.le_refl _) _
    have H2 := Lib.hid (h2.more hb2 (made_zeros w2 n (by have := HR.out.2.1; unfold maxLen; omega) 5))
    clear h2 hb2
    go_wp2_with fail
    refine (save_own_st H2.out 2 (List.mem_cons_self) HS2.out (by rw [HZ.out]; have := HR.out.2.1; omega) (by rw [HZ.out, saved_n]; have := HR.out.2.1; have := HR.out.2.2; show 0 + cnt b.length + 5 + n + 8 < _; unfold cnt; omega) (by rw [HZ.out, saved_p]; have := HR.out.2.1; simp; omega)).mono ?_
    rintro e w3 ⟨rfl, h3⟩
    have H3 := Lib.hid h3
    clear h3
    go_wp2_with fail
    refine (load_st H3.out (z := 1) (ok := true) (B := b) HL.out rfl rfl rfl).mono ?_
    rintro e w4 ⟨a4, c4, rfl, h4⟩
    have hcv1 := conv_any (h4.row List.mem_cons_self).row
    have hcv2 := conv_any (HR.out.1.below h4.old)
    rw [HSB.out] at hcv1 hcv2
    have H4 := Lib.hid h4
    clear h4
    go_wp2_with fail
    refine (save_st H4.out 0 (c := 0) HN0.out (full_arg _) (by simp) (by rw [saved_n]; have := HR.out.2.2; show 0 + cnt b.length + 5 + 0 + 8 < _; unfold cnt; omega) (by rw [saved_p]; simp)).mono ?_
    rintro e w5 ⟨rfl, h5⟩
    have H5 := Lib.hid h5
    clear h5
    go_wp2_with fail
    refine (known_any _).mono ?_
    rintro e w6 ⟨rfl, hb⟩
    have HB := Lib.hid (H5.out.below hb).old
    clear hb
    go_wp2_with fail
    go_ret
    exact ⟨rfl, HB.out⟩
  · have g3 : (n : Int) ≤ 224 := by omega
    have HS2 := Lib.hid (full_ok b n (by omega))
    have HL := Lib.hid (full_load2 b hb n (by omega))
    clear hr hn hb hsb hf g1
    go_enter Try.func5, Try.ntmps5
    go_wp2_with fail
    refine (new_st 40 (by omega) 40 rfl w).mono ?_
    rintro e w1 ⟨g, rfl, h1⟩
    have H1 := Lib.hid h1
    clear h1
    go_wp2_with fail
    refine (save_st H1.out 1 HR.out.1 HS1.out (by have := HR.out.2.2; omega) (by have := HR.out.2.2; show 0 + b.length + 8 < _; omega) (by have := HR.out.2.2; show 0 + b.length + 8 < _; omega)).mono ?_
    rintro e w2 ⟨rfl, h2⟩
    have hb2 : Below w2.heap.size w2 (w2.alloc (.cells (madeCells #[.int .u8 0] n) 5)) := (Below.refl _ _).alloc (Nat.le_refl _) _
    have H2 := Lib.hid (h2.more hb2 (made_zeros w2 n (by have := HR.out.2.1; unfold maxLen; omega) 5))
    clear h2 hb2
    go_wp2_with fail
    refine (save_own_st H2.out 2 (List.mem_cons_self) HS2.out (by rw [HZ.out]; have := HR.out.2.1; omega) (by rw [HZ.out, saved_n]; have := HR.out.2.1; have := HR.out.2.2; show 0 + cnt b.length + 5 + n + 8 < _; unfold cnt; omega) (by rw [HZ.out, saved_p]; have := HR.out.2.1; simp; omega)).mono ?_
    rintro e w3 ⟨rfl, h3⟩
    have H3 := Lib.hid h3
    clear h3
    go_wp2_with fail
    refine (load_st H3.out (z := 2) (ok := true) (B := zeros n) HL.out rfl rfl rfl).mono ?_
    rintro e w4 ⟨a4, c4, rfl, h4⟩
    have H4 := Lib.hid h4
    rw [HZ.out]
    clear h4
    go_wp2_with fail
    refine (known_any _).mono ?_
    rintro e w6 ⟨rfl, hb⟩
    have HB := Lib.hid (H4.out.below hb).old
    clear hb
    go_wp2_with fail
    go_ret
    exact ⟨rfl, HB.out⟩

/-- THE LAW's WALK. -/
theorem full_law_walk (n : Int) (p : Option Addr) (c : Nat) (b : List UInt8) (w : World) (hr : Row w (.slice p b.length c) b) :
    Calls Try.prog 5 #[.int .i64 n, .slice p b.length c] w fun e w' => e = .returned (.bool true) ∧ Below w.heap.size w w' := by
  by_cases h : n < 0 ∨ 400 < n ∨ 100 < b.length
  · have h1 := hr.length_le
    unfold maxLen at h1
    exact full_out n p b.length c w (by omega) h
  · obtain ⟨m, rfl⟩ := Int.eq_ofNat_of_zero_le (show 0 ≤ n by omega)
    exact full_in m p c b w hr (by omega) (by omega)
end Go.Proofs.Ytffjdpkgcgdfdaa
