/-
  Proved: the walk of the law SlotGens: what is no generation is refused, and nothing is done; so it answers true and changes nothing that was there. No conditions.
-/
import Derived.Test.YtffjdpkgcgdfdaaSlotKnown
namespace Go.Proofs.Ytffjdpkgcgdfdaa
open Go Go.RowKit DiskMath NetMem SpanMath SumMath

theorem gens_save5 : slotSave (Dk.new 40) 5 (oneB 120) = (0, saved (Dk.new 40) 5 (oneB 120)) := save_well (Dk.new 40) 5 (oneB 120) rfl rfl (by omega) (by omega) (by decide)
theorem gens_load : slotLoad (saved (Dk.new 40) 5 (oneB 120)) = some (5, oneB 120) := load_one 40 5 _ (by omega) (by omega) (by decide) (by decide)
theorem gens_n : (saved (Dk.new 40) 5 (oneB 120)).n = 6 := by rw [saved_n]; decide
theorem gens_ok (gen : Int) (h1 : 1 ≤ gen) (h2 : gen ≤ 2147483647) : slotSave (saved (Dk.new 40) 5 (oneB 120)) gen (oneB 121) = (0, saved (saved (Dk.new 40) 5 (oneB 120)) gen.toNat (oneB 121)) := by
  have := save_well (saved (Dk.new 40) 5 (oneB 120)) gen.toNat (oneB 121) (by rw [saved_down]; rfl) (by rw [saved_armed]; rfl) (by omega) (by omega) (by rw [saved_room]; decide)
  rwa [show ((gen.toNat : Nat) : Int) = gen by omega] at this
theorem gens_no (d : Dk) (b : List UInt8) (gen : Int) (h : gen < 1 ∨ 2147483647 < gen) : slotSave d gen b = (1, d) := by
  unfold slotSave
  rw [if_pos h]

set_option maxHeartbeats 4000000 in
set_option maxRecDepth 100000 in
theorem gens_law_walk (gen : Int) (w : World) :
    Calls Try.prog 6 #[.int .i64 gen] w fun e w' => e = .returned (.bool true) ∧ Below w.heap.size w w' := by
  have kc := fun (w : World) (C : Array Value) (n c : Nat) => Lib.run_convert_bytes_const (P := Try.prog) w 27 5 C n c Try.underlying27 Try.underlying5
  have main : (1 ≤ gen ∧ gen < 2147483648) ∨ gen < 1 ∨ (1 ≤ gen ∧ 2147483648 ≤ gen) := by omega
  rcases main with ⟨g1, g2⟩ | g1 | ⟨g1, g2⟩
  · have HS := Lib.hid (gens_ok gen g1 (by omega))
    go_enter Try.func6, Try.ntmps6
    go_wp2_with fail
    refine (new_st 40 (by omega) 40 rfl w).mono ?_
    rintro e w1 ⟨g, rfl, h1⟩
    have hb1 : Below w1.heap.size w1 (w1.alloc (.cells #[.int .u8 120] 5 (1, 2))) := (Below.refl _ _).alloc (Nat.le_refl _) _
    have H1 := Lib.hid (h1.more hb1 (one_own w1 5 120))
    clear h1 hb1
    go_wp2_with fail
    refine (save_own_st H1.out 5 (List.mem_cons_self) gens_save5 (by decide) (by decide) (by decide)).mono ?_
    rintro e w2 ⟨rfl, h2⟩
    have H2 := Lib.hid h2
    clear h2
    go_wp2_with fail
    refine (ops_st H2.out (n := 6) (by rw [gens_n]; rfl)).mono ?_
    rintro e w3 ⟨rfl, rfl⟩
    have hb2 : Below w2.heap.size w2 (w2.alloc (.cells #[.int .u8 121] 5 (1, 2))) := (Below.refl _ _).alloc (Nat.le_refl _) _
    have H3 := Lib.hid (H2.out.more hb2 (one_own w2 5 121))
    clear hb2
    go_wp2_with fail
    refine (save_own_st H3.out gen (List.mem_cons_self) HS.out (by decide) (by rw [saved_n]; decide) (by rw [saved_p]; decide)).mono ?_
    rintro e w4 ⟨rfl, h4⟩
    have H4 := Lib.hid h4
    clear h4
    go_wp2_with fail
    refine (known_any _).mono ?_
    rintro e w5 ⟨rfl, hb⟩
    have HB := Lib.hid (H4.out.below hb).old
    clear hb
    go_wp2_with fail
    go_ret
    exact ⟨rfl, HB.out⟩
  all_goals
    have HS := Lib.hid (gens_no (saved (Dk.new 40) 5 (oneB 120)) (oneB 121) gen (by omega))
    go_enter Try.func6, Try.ntmps6
    go_wp2_with fail
    refine (new_st 40 (by omega) 40 rfl w).mono ?_
    rintro e w1 ⟨g, rfl, h1⟩
    have hb1 : Below w1.heap.size w1 (w1.alloc (.cells #[.int .u8 120] 5 (1, 2))) := (Below.refl _ _).alloc (Nat.le_refl _) _
    have H1 := Lib.hid (h1.more hb1 (one_own w1 5 120))
    clear h1 hb1
    go_wp2_with fail
    refine (save_own_st H1.out 5 (List.mem_cons_self) gens_save5 (by decide) (by decide) (by decide)).mono ?_
    rintro e w2 ⟨rfl, h2⟩
    have H2 := Lib.hid h2
    clear h2
    go_wp2_with fail
    refine (ops_st H2.out (n := 6) (by rw [gens_n]; rfl)).mono ?_
    rintro e w3 ⟨rfl, rfl⟩
    have hb2 : Below w2.heap.size w2 (w2.alloc (.cells #[.int .u8 121] 5 (1, 2))) := (Below.refl _ _).alloc (Nat.le_refl _) _
    have H3 := Lib.hid (H2.out.more hb2 (one_own w2 5 121))
    clear hb2
    go_wp2_with fail
    refine (save_own_st H3.out gen (List.mem_cons_self) HS.out (by decide) (by rw [saved_n]; decide) (by rw [saved_p]; decide)).mono ?_
    rintro e w4 ⟨rfl, h4⟩
    have H4 := Lib.hid h4
    clear h4
    go_wp2_with fail
    refine (load_st H4.out (z := 5) (ok := true) (B := oneB 120) gens_load rfl rfl rfl).mono ?_
    rintro e w5 ⟨a, c, rfl, h5⟩
    have hcv := conv_any (h5.row List.mem_cons_self).row
    rw [one_text] at hcv
    have H5 := Lib.hid h5
    clear h5
    go_wp2_with fail
    refine (ops_st H5.out (n := 6) (by rw [gens_n]; rfl)).mono ?_
    rintro e w6 ⟨rfl, rfl⟩
    go_wp2_with fail
    refine (known_any _).mono ?_
    rintro e w7 ⟨rfl, hb⟩
    have HB := Lib.hid (H5.out.below hb).old
    clear hb
    go_wp2_with fail
    go_ret
    exact ⟨rfl, HB.out⟩
end Go.Proofs.Ytffjdpkgcgdfdaa
