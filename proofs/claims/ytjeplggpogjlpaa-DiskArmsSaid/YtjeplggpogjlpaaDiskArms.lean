/-
  Proved: the walk of the law DiskArms: the disk crashes at just that operation, or at the next one, so it answers true and changes nothing that was there. No conditions.
-/
import Derived.Test.YtjeplggpogjlpaaDiskLaw
namespace Go.Proofs.Ytjeplggpogjlpaa
open Go Go.RowKit DiskMath NetMem

def dk1 (k : Nat) : Dk := { Dk.new 1 with n := k }
def ak1 (a : Int) (k : Nat) : Dk := { Dk.new 1 with n := k, armed := true, at_ := a }
def ck1 (k : Nat) : Dk := { Dk.new 1 with n := k, down := true }
theorem flush_dk1 (k : Nat) : (dk1 k).flush = (0, dk1 (k + 1)) := rfl
theorem flush_ak1 (a : Int) (k : Nat) (h : (k : Int) < a) : (ak1 a k).flush = (0, ak1 a (k + 1)) := by
  have : (ak1 a k).hits = false := by
    show (true && decide (a ≤ (k : Int))) = false
    simp; omega
  unfold Dk.flush
  rw [this]
  rfl
theorem flush_ak1' (a : Int) (k : Nat) (h : a ≤ (k : Int)) : (ak1 a k).flush = (5, ck1 k) := by
  have : (ak1 a k).hits = true := by
    show (true && decide (a ≤ (k : Int))) = true
    simp; omega
  unfold Dk.flush
  rw [this]
  rfl

set_option maxHeartbeats 1000000 in
theorem arms_out (a z : Int) (w : World) (h : a < 0 ∨ 20 < a ∨ z < -3 ∨ 30 < z) :
    Calls Try.prog 7 #[.int .i64 a, .int .i64 z] w fun e w' => e = .returned (.bool true) ∧ Below w.heap.size w w' := by
  rcases Classical.em (a < 0) with h1 | h1
  · clear h
    go_enter Try.func7, Try.ntmps7
    go_wp2_with fail
    all_goals
      go_ret
      exact ⟨rfl, Below.refl _ _⟩
  · rcases Classical.em (20 < a) with h2 | h2
    · clear h
      go_enter Try.func7, Try.ntmps7
      go_wp2_with fail
      all_goals
        go_ret
        exact ⟨rfl, Below.refl _ _⟩
    · rcases Classical.em (z < -3) with h3 | h3
      · clear h
        go_enter Try.func7, Try.ntmps7
        go_wp2_with fail
        all_goals
          go_ret
          exact ⟨rfl, Below.refl _ _⟩
      · have h4 : 30 < z := by omega
        clear h
        go_enter Try.func7, Try.ntmps7
        go_wp2_with fail
        all_goals
          go_ret
          exact ⟨rfl, Below.refl _ _⟩

def RelA (w : World) (p : Value) (a : Nat) (i : Value) (wr : World) : Prop := ∃ k : Nat, k ≤ a ∧ i = .int .i64 (k : Int) ∧ St w wr p (dk1 k) []
def RelB (w : World) (p : Value) (a m : Nat) (z : Int) (i : Value) (wr : World) : Prop := ∃ k : Nat, k ≤ m ∧ i = .int .i64 (k : Int) ∧ St w wr p (ak1 z (a + k)) []

set_option maxHeartbeats 2000000 in
set_option maxRecDepth 100000 in
theorem arms_in (a : Nat) (z : Int) (w : World) (h1 : a ≤ 20) (h3 : -3 ≤ z) (h4 : z ≤ 30) :
    Calls Try.prog 7 #[.int .i64 (a : Int), .int .i64 z] w fun e w' => e = .returned (.bool true) ∧ Below w.heap.size w w' := by
  have h0 : (0 : Int) ≤ (a : Int) := by omega
  have h2 : (a : Int) ≤ 20 := by omega
  go_enter Try.func7, Try.ntmps7
  go_wp2_with fail
  refine (new_st 1 (by omega) 1 rfl w).mono ?_
  rintro e w1 ⟨g, rfl, hs⟩
  have HS := Lib.hid hs
  clear hs
  go_wp2_with fail
  go_loopw [6] (fun i wr => RelA w (.pointer (some ⟨g, 0, none⟩)) a i wr) (fun i _ => a - (intOf i).toNat)
  case atStart => exact ⟨0, by omega, rfl, HS.out⟩
  case round =>
    obtain ⟨k, hk, rfl, hst⟩ := hrel
    have HT := Lib.hid hst
    clear hst
    by_cases hlt : k < a
    · go_wp2_with fail
      refine (flush_st HT.out (flush_dk1 k) (by show k < _; omega)).mono ?_
      rintro e w2 ⟨rfl, h5⟩
      have H5 := Lib.hid h5
      clear h5
      go_wp2_with fail
      exact ⟨⟨k + 1, by omega, by go_num, H5.out⟩, by simp [intOf]; omega⟩
    · obtain rfl : k = a := by omega
      obtain ⟨m, hm⟩ : ∃ m, m = (z - (k : Int)).toNat := ⟨_, rfl⟩
      have HM := Lib.hid hm
      clear hm
      go_wp2_with fail
      refine (arm_st HT.out z (.inl ⟨rfl, rfl⟩) (by decide) (show (dk1 k).arm z [] = ak1 z k from rfl)).mono ?_
      rintro e w2 ⟨rfl, h5⟩
      have H5 := Lib.hid h5
      clear h5
      go_wp2_with fail
      go_loopw [7] (fun i wr => RelB w (.pointer (some ⟨g, 0, none⟩)) k m z i wr) (fun i _ => m + 1 - (intOf i).toNat)
      case atStart => exact ⟨0, by omega, rfl, H5.out⟩
      case round =>
        obtain ⟨j, hj, rfl, hst⟩ := hrel
        have HV := Lib.hid hst
        clear hst
        have hj60 : (j : Int) < 60 := by have := HM.out; omega
        by_cases hjm : j < m
        · go_wp2_with fail
          refine (flush_st HV.out (flush_ak1 z (k + j) (by have := HM.out; omega)) (by show k + j < _; omega)).mono ?_
          rintro e w3 ⟨rfl, h6⟩
          have H6 := Lib.hid h6
          clear h6
          go_wp2_with fail
          exact ⟨⟨j + 1, by omega, by go_num, H6.out⟩, by simp [intOf]; omega⟩
        · obtain rfl : j = m := by omega
          go_wp2_with fail
          refine (flush_st HV.out (flush_ak1' z (k + j) (by have := HM.out; omega)) (by show k + j < _; omega)).mono ?_
          rintro e w3 ⟨rfl, h6⟩
          have H6 := Lib.hid h6
          clear h6
          obtain ⟨t, ht⟩ : ∃ t, z - (k : Int) = t := ⟨_, rfl⟩
          rcases (show t < 0 ∧ j = 0 ∨ t = 0 ∧ j = 0 ∨ 0 < (j : Int) ∧ t = (j : Int) by have := HM.out; omega) with ⟨hz, rfl⟩ | ⟨rfl, rfl⟩ | ⟨hz, rfl⟩
          · go_wp2_with fail
            all_goals
              refine (down_st H6.out (show (ck1 (k + 0)).down = true from rfl)).mono ?_
              rintro e w4 ⟨rfl, rfl⟩
              go_wp2_with fail
              refine (ops_st H6.out (show ((ck1 (k + 0)).n : Int) = (k : Int) from rfl)).mono ?_
              rintro e w4 ⟨rfl, rfl⟩
              go_wp2_with fail
              refine (known_any _).mono ?_
              rintro e w4 ⟨rfl, hb⟩
              have HB := Lib.hid (H6.out.below hb).old
              clear hb
              go_wp2_with fail
              go_ret
              exact ⟨rfl, HB.out⟩
          · go_wp2_with fail
            all_goals
              refine (down_st H6.out (show (ck1 (k + 0)).down = true from rfl)).mono ?_
              rintro e w4 ⟨rfl, rfl⟩
              go_wp2_with fail
              refine (ops_st H6.out (show ((ck1 (k + 0)).n : Int) = (k : Int) from rfl)).mono ?_
              rintro e w4 ⟨rfl, rfl⟩
              go_wp2_with fail
              refine (known_any _).mono ?_
              rintro e w4 ⟨rfl, hb⟩
              have HB := Lib.hid (H6.out.below hb).old
              clear hb
              go_wp2_with fail
              go_ret
              exact ⟨rfl, HB.out⟩
          · go_wp2_with fail
            all_goals
              refine (down_st H6.out (show (ck1 (k + j)).down = true from rfl)).mono ?_
              rintro e w4 ⟨rfl, rfl⟩
              go_wp2_with fail
              refine (ops_st H6.out (show ((ck1 (k + j)).n : Int) = (k : Int) + (j : Int) from Int.natCast_add _ _)).mono ?_
              rintro e w4 ⟨rfl, rfl⟩
              go_wp2_with fail
              refine (known_any _).mono ?_
              rintro e w4 ⟨rfl, hb⟩
              have HB := Lib.hid (H6.out.below hb).old
              clear hb
              go_wp2_with fail
              go_ret
              exact ⟨rfl, HB.out⟩

/-- THE LAW's WALK. -/
theorem arms_law (a z : Int) (w : World) :
    Calls Try.prog 7 #[.int .i64 a, .int .i64 z] w fun e w' => e = .returned (.bool true) ∧ Below w.heap.size w w' := by
  by_cases h : a < 0 ∨ 20 < a ∨ z < -3 ∨ 30 < z
  · exact arms_out a z w h
  · obtain ⟨k, rfl⟩ := Int.eq_ofNat_of_zero_le (show 0 ≤ a by omega)
    exact arms_in k z w (by omega) (by omega) (by omega)
end Go.Proofs.Ytjeplggpogjlpaa
