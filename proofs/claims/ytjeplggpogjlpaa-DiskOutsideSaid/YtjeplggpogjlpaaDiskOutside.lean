/-
  Proved: the walk of the law DiskOutside: where there is no sector, or too few bytes, nothing is written, so it answers true and changes nothing that was there. No conditions.
-/
import Derived.Test.YtjeplggpogjlpaaDiskLaw
namespace Go.Proofs.Ytjeplggpogjlpaa
open Go Go.RowKit DiskMath NetMem

set_option maxHeartbeats 1000000 in
theorem outside_out (n i m : Int) (w : World) (h : n < 0 ∨ 20 < n ∨ m < 0 ∨ 40 < m) :
    Calls Try.prog 6 #[.int .i64 n, .int .i64 i, .int .i64 m] w fun e w' => e = .returned (.bool true) ∧ Below w.heap.size w w' := by
  rcases Classical.em (n < 0) with h1 | h1
  · clear h
    go_enter Try.func6, Try.ntmps6
    go_wp2_with fail
    all_goals
      go_ret
      exact ⟨rfl, Below.refl _ _⟩
  · rcases Classical.em (20 < n) with h2 | h2
    · clear h
      go_enter Try.func6, Try.ntmps6
      go_wp2_with fail
      all_goals
        go_ret
        exact ⟨rfl, Below.refl _ _⟩
    · rcases Classical.em (m < 0) with h3 | h3
      · clear h
        go_enter Try.func6, Try.ntmps6
        go_wp2_with fail
        all_goals
          go_ret
          exact ⟨rfl, Below.refl _ _⟩
      · have h4 : 40 < m := by omega
        clear h
        go_enter Try.func6, Try.ntmps6
        go_wp2_with fail
        all_goals
          go_ret
          exact ⟨rfl, Below.refl _ _⟩

/-- Bytes that make has laid. -/
theorem made_own (w : World) (m : Nat) (hm : m ≤ 40) : Own (w.alloc (.cells (madeCells #[.int .u8 0] m) 5)) w.heap.size (.slice (some ⟨w.heap.size, 0, none⟩) m m) (List.replicate m 0) := by
  have := Own.made w 5 (List.replicate m 0) m (by simp) (by unfold maxLen; omega) (madeCells #[.int .u8 0] m) (size_madeCells _ _) (fun j h => by
    have hj : j < m := by simpa using h
    rw [List.getElem_replicate]
    simp [madeCells, hj, Nat.mod_one]) w.heap.size (Nat.le_refl _)
  rwa [List.length_replicate] at this

/-- How many bytes Read answers. -/
theorem read_length (n : Nat) (i : Int) (d : Dk) (hd : d.s.length = n) (hl : ∀ x ∈ d.s, x.2.length = 16) : (d.read i).length = if 0 ≤ i ∧ i < (n : Int) then 16 else 0 := by
  unfold Dk.read
  by_cases h : 0 ≤ i ∧ i < (n : Int)
  · rw [if_pos h, if_pos (by simp [Dk.has, hd, h])]
    rw [List.getD_eq_getElem?_getD, List.getElem?_eq_getElem (by omega), Option.getD_some]
    exact hl _ (List.getElem_mem _)
  · rw [if_neg h, if_neg (by simp [Dk.has, hd]; omega)]
    rfl

theorem own_len {w : World} {B : Nat} {v : Value} {l : List UInt8} (h : Own w B v l) : ∃ a c, v = .slice a l.length c := by
  rcases h with ⟨rfl, rfl⟩ | ⟨g, cap, rfl, -⟩
  · exact ⟨_, _, rfl⟩
  · exact ⟨_, _, rfl⟩

theorem outside_model (n : Nat) (i : Int) (m : Nat) (l : List UInt8) (hl : l.length = m) : ∃ e d, (Dk.new n).write i l = (e, d) ∧ (d.read i).length = (if 0 ≤ i ∧ i < (n : Int) then 16 else 0) ∧
    (m ≠ 16 ∧ e = 1 ∧ d.n = 0 ∨ m = 16 ∧ ¬ (0 ≤ i ∧ i < (n : Int)) ∧ e = 4 ∧ d.n = 0 ∨ m = 16 ∧ (0 ≤ i ∧ i < (n : Int)) ∧ e = 0 ∧ d.n = 1) := by
  have h0 : ∀ x ∈ (Dk.new n).s, x.2.length = 16 := fun x hx => by
    simp only [Dk.new, List.mem_replicate] at hx
    rw [hx.2]; rfl
  have hlen : (Dk.new n).s.length = n := by simp [Dk.new]
  unfold Dk.write
  rw [if_neg (by simp [Dk.new])]
  by_cases h1 : m = 16
  · rw [if_neg (by omega)]
    by_cases h2 : 0 ≤ i ∧ i < (n : Int)
    · rw [if_neg (by simp [Dk.has, hlen, h2]), if_neg (by simp [Dk.hits, Dk.new])]
      refine ⟨_, _, rfl, read_length n i _ (by simp [Dk.put, hlen]) (fun x hx => ?_), .inr (.inr ⟨h1, h2, rfl, rfl⟩)⟩
      simp only [Dk.put] at hx
      obtain ⟨j, hj, rfl⟩ := List.getElem_of_mem hx
      rw [List.length_modify] at hj
      rw [List.getElem_modify]
      split
      · show l.length = 16
        omega
      · exact h0 _ (List.getElem_mem _)
    · rw [if_pos (by simp [Dk.has, hlen]; omega)]
      exact ⟨_, _, rfl, read_length n i _ hlen h0, .inr (.inl ⟨h1, h2, rfl, rfl⟩)⟩
  · rw [if_pos (by omega)]
    exact ⟨_, _, rfl, read_length n i _ hlen h0, .inl ⟨h1, rfl, rfl⟩⟩

set_option maxHeartbeats 2000000 in
set_option maxRecDepth 100000 in
theorem outside_in (n : Nat) (i : Int) (m : Nat) (w : World) (h1 : n ≤ 20) (h2 : m ≤ 40) :
    Calls Try.prog 6 #[.int .i64 (n : Int), .int .i64 i, .int .i64 (m : Int)] w fun e w' => e = .returned (.bool true) ∧ Below w.heap.size w w' := by
  obtain ⟨e0, d', hw, hr, hc⟩ := outside_model n i m (List.replicate m 0) (by simp)
  obtain ⟨r, hr'⟩ : ∃ r, r = d'.read i := ⟨_, rfl⟩
  rw [← hr'] at hr
  have HW := Lib.hid (And.intro hw hr'.symm)
  clear hw hr'
  have hmk : ∀ w : World, (Instr.makeSlice 22 (.int .i64 (m : Int)) (.int .i64 (m : Int))).run Try.prog w = .ok (.slice (some ⟨w.heap.size, 0, none⟩) m m) (w.alloc (.cells (madeCells #[.int .u8 0] m) 5)) := fun w => by
    obtain ⟨i0, hi, hz0, hz1, hz2⟩ := info_parts info5
    have := run_make (P := Try.prog) w 22 5 i0 (.int .u8 0) Try.underlying22 hi hz0 .i64 .i64 m m (by omega) (Int.le_refl _) (by rw [hz2]; omega) (by omega)
    simpa [hz1, Value.cells] using this
  have hn0 : (0 : Int) ≤ (n : Int) := by omega
  have hn1 : (n : Int) ≤ 20 := by omega
  have hm0 : (0 : Int) ≤ (m : Int) := by omega
  have hm1 : (m : Int) ≤ 40 := by omega
  obtain ⟨c, hcn⟩ : ∃ c : Int, (d'.n : Int) = c := ⟨_, rfl⟩
  have hcases : (((m : Int) != 16) = true ∧ e0 = 1 ∧ c = 0 ∨ ((m : Int) != 16) = false ∧ e0 = 4 ∧ c = 0 ∧ (i < 0 ∨ 0 ≤ i ∧ (n : Int) ≤ i) ∨ ((m : Int) != 16) = false ∧ e0 = 0 ∧ c = 1 ∧ 0 ≤ i ∧ i < (n : Int)) := by
    rcases hc with ⟨ha, hb, hd⟩ | ⟨ha, hb, hd, he⟩ | ⟨ha, hb, hd, he⟩
    · left; exact ⟨by simp; omega, hb, by omega⟩
    · right; left; exact ⟨by simp; omega, hd, by omega, by omega⟩
    · right; right; exact ⟨by simp; omega, hd, by omega, hb.1, hb.2⟩
  have hrl : (i < 0 ∧ r.length = 0) ∨ (0 ≤ i ∧ (n : Int) ≤ i ∧ r.length = 0) ∨ (0 ≤ i ∧ i < (n : Int) ∧ r.length = 16) := by
    rw [hr]
    split <;> omega
  have HC := Lib.hid hcn
  clear hc hr hcn
  rcases hcases with ⟨hm, rfl, rfl⟩ | ⟨hm, rfl, rfl, hi⟩ | ⟨hm, rfl, rfl, hi, hi'⟩
  all_goals rcases hrl with ⟨hx, hl⟩ | ⟨hx, hy, hl⟩ | ⟨hx, hy, hl⟩
  all_goals first
    | (exfalso; omega)
    | skip
  all_goals
    go_enter Try.func6, Try.ntmps6
    go_wp2_with fail
    refine (new_st n (by omega) _ rfl w).mono ?_
    rintro e w1 ⟨g, rfl, hs⟩
    have HS := Lib.hid hs
    clear hs
    go_wp2_with fail
    have HO := Lib.hid (made_own w1 _ h2)
    refine (write_st (HS.out.below ((Below.refl _ w1).alloc (Nat.le_refl _) _)) i HO.out.row HW.out.1 (show 0 < 4611686018427387904 by decide) (show 0 < 4294967296 by decide)).mono ?_
    rintro e w2 ⟨rfl, h5⟩
    have H5 := Lib.hid h5
    clear h5
    go_wp2_with fail
    refine (ops_st H5.out HC.out).mono ?_
    rintro e w3 ⟨rfl, rfl⟩
    go_wp2_with fail
    refine (read_st H5.out i HW.out.2).mono ?_
    rintro e w3 ⟨v, rfl, h6⟩
    have H6 := Lib.hid h6
    clear h6
    obtain ⟨a, cc, rfl⟩ := own_len (H6.out.row List.mem_cons_self)
    rw [hl]
    go_wp2_with fail
    refine (known_any _).mono ?_
    rintro e w4 ⟨rfl, hb⟩
    have HB := Lib.hid (H6.out.below hb).old
    clear hb
    go_wp2_with fail
    go_ret
    first
      | exact ⟨rfl, HB.out⟩
      | exact ⟨by show Ending.returned (.bool (!decide (i < (n : Int)))) = _; rw [decide_eq_false (by omega)]; rfl, HB.out⟩

/-- THE LAW's WALK. -/
theorem outside_law (n i m : Int) (w : World) :
    Calls Try.prog 6 #[.int .i64 n, .int .i64 i, .int .i64 m] w fun e w' => e = .returned (.bool true) ∧ Below w.heap.size w w' := by
  by_cases h : n < 0 ∨ 20 < n ∨ m < 0 ∨ 40 < m
  · exact outside_out n i m w h
  · obtain ⟨k, rfl⟩ := Int.eq_ofNat_of_zero_le (show 0 ≤ n by omega)
    obtain ⟨j, rfl⟩ := Int.eq_ofNat_of_zero_le (show 0 ≤ m by omega)
    exact outside_in k i j w (by omega) (by omega)
end Go.Proofs.Ytjeplggpogjlpaa
