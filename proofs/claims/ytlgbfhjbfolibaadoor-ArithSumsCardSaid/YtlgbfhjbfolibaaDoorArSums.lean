/-
  Proved: the walk of the law ArithSums: it answers true and changes nothing that was there. Conditions: the library's two sentinel errors read as laid.
-/
import Derived.Test.YtlgbfhjbfolibaaDoorArSums0
import Derived.Test.YtlgbfhjbfolibaaDoorArKnown
namespace Go.Proofs.YtlgbfhjbfolibaaDoor
open Go Go.Shelf Go.RowKit ArMath

theorem vars_two (w : World) (a b : B) (ha : a.length ≤ 140737488355328) (hb : b.length ≤ 140737488355328) : VarsAt (w.alloc (.cells #[.string ⟨#[97]⟩, .string (tx a), .string ⟨#[98]⟩, .string (tx b)] 38)) (.slice (some ⟨w.heap.size, 0, none⟩) 2 2) (twoVars a b) := by
  refine ⟨_, _, rfl, by simp [twoVars], fun j x hx => ?_⟩
  have h := heap_alloc_new w (.cells #[.string ⟨#[97]⟩, .string (tx a), .string ⟨#[98]⟩, .string (tx b)] 38)
  match j, hx with
  | 0, hx => cases hx; exact ⟨by simp, ha, _, _, rfl, cell_of_row _ _ _ _ _ _ h, cell_of_row _ _ _ _ _ _ h⟩
  | 1, hx => cases hx; exact ⟨by simp, hb, _, _, rfl, cell_of_row _ _ _ _ _ _ h, cell_of_row _ _ _ _ _ _ h⟩
  | j + 2, hx => simp [twoVars] at hx
set_option maxRecDepth 8000 in
theorem sums_out (a b : Int) (w : World) (h : ¬ (Near a ∧ Near b)) :
    Calls Tryd.prog 6 #[.int .i64 a, .int .i64 b] w fun e w' => e = .returned (.bool true) ∧ Below w.heap.size w w' := by
  have HB := Lib.hid (Below.refl w.heap.size w)
  have h4 : a < -1073741824 ∨ 1073741824 < a ∨ b < -1073741824 ∨ 1073741824 < b := by unfold Near at h; omega
  clear h
  by_cases h1 : a < -1073741824
  · clear h4
    go_enter Tryd.func6, Tryd.ntmps6
    go_wp2_with fail
    go_ret
    exact ⟨rfl, HB.out⟩
  have d1 : decide (a < -1073741824) = false := by simpa using h1
  by_cases h2 : 1073741824 < a
  · clear h4
    go_enter Tryd.func6, Tryd.ntmps6
    go_wp2_with fail
    go_ret
    exact ⟨rfl, HB.out⟩
  have d2 : decide (1073741824 < a) = false := by simpa using h2
  by_cases h3 : b < -1073741824
  · clear h4
    go_enter Tryd.func6, Tryd.ntmps6
    go_wp2_with fail
    go_ret
    exact ⟨rfl, HB.out⟩
  have d3 : decide (b < -1073741824) = false := by simpa using h3
  have h5 : 1073741824 < b := by omega
  clear h4
  go_enter Tryd.func6, Tryd.ntmps6
  go_wp2_with fail
  go_ret
  exact ⟨rfl, HB.out⟩
set_option maxRecDepth 8000 in
set_option maxHeartbeats 2000000 in
theorem sums_in (a b : Int) (w : World) (ha : Near a) (hb : Near b) (hg : GlobA w) (h7 : 7 ≤ w.heap.size) :
    Calls Tryd.prog 6 #[.int .i64 a, .int .i64 b] w fun e w' => e = .returned (.bool true) ∧ Below w.heap.size w w' := by
  have HA := Lib.hid (fun W => itoa_tx a ha.i W)
  have HBB := Lib.hid (fun W => itoa_tx b hb.i W)
  have HKN := Lib.hid (fun (W : World) (hb : Below w.heap.size w W) => known_any W (hg.below hb) (Nat.le_trans h7 hb.size))
  have HEV := Lib.hid (fun (x : B) (hx : x.length ≤ 5000) (W0 W : World) (h0 : Below w.heap.size w W0) (h1 : Below (W0.alloc (.cells #[.string ⟨#[97]⟩, .string (tx (Lib.itoa a)), .string ⟨#[98]⟩, .string (tx (Lib.itoa b))] 38)).heap.size (W0.alloc (.cells #[.string ⟨#[97]⟩, .string (tx (Lib.itoa a)), .string ⟨#[98]⟩, .string (tx (Lib.itoa b))] 38)) W) =>
    eval_any x hx (twoVars (Lib.itoa a) (Lib.itoa b)) (.slice (some ⟨W0.heap.size, 0, none⟩) 2 2) W ((vars_two W0 _ _ (itoa_len a ha.i) (itoa_len b hb.i)).below (Nat.le_refl _) h1) ((hg.below (h0.alloc h0.size _)).below h1) (Nat.le_trans (Nat.le_trans h7 (h0.alloc h0.size _).size) h1.size))
  have HE1 := Lib.hid (fun W0 W h0 h1 => HEV.out [97, 32, 43, 32, 98] (by decide) W0 W h0 h1)
  have HE2 := Lib.hid (fun W0 W h0 h1 => HEV.out [97, 42, 98, 32, 45, 32, 98] (by decide) W0 W h0 h1)
  have HE3 := Lib.hid (fun W0 W h0 h1 => HEV.out [97, 32, 60, 32, 98] (by decide) W0 W h0 h1)
  have HE4 := Lib.hid (fun W0 W h0 h1 => HEV.out [97, 32, 47, 32, 98, 32, 42, 32, 98, 32, 43, 32, 97, 32, 37, 32, 98] (by decide) W0 W h0 h1)
  rw [sums_add ha hb] at HE1
  rw [sums_mul ha hb] at HE2
  rw [sums_lss ha hb] at HE3
  have hm := near_mul ha hb
  have e1 : RowKit.wrap64 (a + b) = a + b := wr_in ⟨by have := ha.1; have := hb.1; omega, by have := ha.2; have := hb.2; omega⟩
  have e2 : RowKit.wrap64 (a * b) = a * b := wr_in ⟨by omega, by omega⟩
  have e3 : RowKit.wrap64 (a * b - b) = a * b - b := wr_in ⟨by have := hb.2; omega, by have := hb.1; omega⟩
  obtain ⟨TA, hTA⟩ : ∃ T, tx (Lib.itoa a) = T := ⟨_, rfl⟩
  obtain ⟨TB, hTB⟩ : ∃ T, tx (Lib.itoa b) = T := ⟨_, rfl⟩
  have q0 := fun h0 => sums_quo ha hb h0
  have qz : b = 0 → evalM (twoVars (Lib.itoa a) (Lib.itoa b)) [97, 32, 47, 32, 98, 32, 42, 32, 98, 32, 43, 32, 97, 32, 37, 32, 98] = (0, 6) := fun h => by rw [h]; exact sums_zero ha
  obtain ⟨r, hr⟩ : ∃ r, evalM (twoVars (Lib.itoa a) (Lib.itoa b)) [97, 32, 47, 32, 98, 32, 42, 32, 98, 32, 43, 32, 97, 32, 37, 32, 98] = r := ⟨_, rfl⟩
  rw [hr] at HE4 q0 qz
  simp only [hTA, hTB] at HA HBB HE1 HE2 HE3 HE4
  rw [show tx [97, 32, 43, 32, 98] = ⟨#[97, 32, 43, 32, 98]⟩ from rfl] at HE1
  rw [show tx [97, 42, 98, 32, 45, 32, 98] = ⟨#[97, 42, 98, 32, 45, 32, 98]⟩ from rfl] at HE2
  rw [show tx [97, 32, 60, 32, 98] = ⟨#[97, 32, 60, 32, 98]⟩ from rfl] at HE3
  rw [show tx [97, 32, 47, 32, 98, 32, 42, 32, 98, 32, 43, 32, 97, 32, 37, 32, 98] = ⟨#[97, 32, 47, 32, 98, 32, 42, 32, 98, 32, 43, 32, 97, 32, 37, 32, 98]⟩ from rfl] at HE4
  have n1 : ¬ a < -1073741824 := by have := ha.1; omega
  have n2 : ¬ 1073741824 < a := by have := ha.2; omega
  have n3 : ¬ b < -1073741824 := by have := hb.1; omega
  have n4 : ¬ 1073741824 < b := by have := hb.2; omega
  have d1 : decide (a < -1073741824) = false := by simpa using n1
  have d2 : decide (1073741824 < a) = false := by simpa using n2
  have d3 : decide (b < -1073741824) = false := by simpa using n3
  have d4 : decide (1073741824 < b) = false := by simpa using n4
  have HB0 := Lib.hid (Below.refl w.heap.size w)
  clear hTA hTB HEV hm hg h7 ha hb hr n1 n2 n3 n4
  by_cases hz : b = 0
  · have hr := qz hz
    subst hr
    subst hz
    clear q0 qz
    simp only [Int.add_zero, Int.mul_zero, Int.sub_zero] at e1 HE1 HE2
    have hw0 : RowKit.wrap64 0 = 0 := by decide +kernel
    clear e2 e3 d3 d4
    by_cases hlt : a < 0
    · have hl1 : truV (decide (a < 0)) = 1 := by rw [decide_eq_true hlt]; rfl
      rw [hl1] at HE3
      clear hl1
      go_enter Tryd.func6, Tryd.ntmps6
      go_wp2_with (first
        | (go_at_call 13; (with_reducible refine (HA.out _).mono ?_); rintro e w1 ⟨rfl, hb1⟩; have HB1 := Lib.hid hb1; clear hb1)
        | (go_at_call 13; (with_reducible refine (HBB.out _).mono ?_); rintro e w2 ⟨rfl, hb2⟩; have HB2 := Lib.hid (HB1.out.trans (hb2.mono HB1.out.size)); have HR := Lib.hid (Below.refl (w2.alloc (.cells #[.string ⟨#[97]⟩, .string TA, .string ⟨#[98]⟩, .string TB] 38)).heap.size (w2.alloc (.cells #[.string ⟨#[97]⟩, .string TA, .string ⟨#[98]⟩, .string TB] 38))); clear hb2)
        | (go_at_call 8; (with_reducible refine (HE1.out _ _ HB2.out HR.out).mono ?_); rintro e w3 ⟨rfl, hb3⟩; have HB3 := Lib.hid hb3; clear hb3)
        | (go_at_call 8; (with_reducible refine (HE2.out _ _ HB2.out HB3.out).mono ?_); rintro e w4 ⟨rfl, hb4⟩; have HB4 := Lib.hid (HB3.out.trans (hb4.mono HB3.out.size)); clear hb4)
        | (go_at_call 8; (with_reducible refine (HE3.out _ _ HB2.out HB4.out).mono ?_); rintro e w5 ⟨rfl, hb5⟩; have HB5 := Lib.hid (HB4.out.trans (hb5.mono HB4.out.size)); clear hb5)
        | (go_at_call 8; (with_reducible refine (HE4.out _ _ HB2.out HB5.out).mono ?_); rintro e w6 ⟨rfl, hb6⟩; have HB6 := Lib.hid (HB5.out.trans (hb6.mono HB5.out.size)); have HB7 := Lib.hid (HB2.out.trans (((Below.refl _ w2).alloc (Nat.le_refl _) (.cells #[.string ⟨#[97]⟩, .string TA, .string ⟨#[98]⟩, .string TB] 38)).trans (HB6.out.mono (by simp)) |>.mono HB2.out.size)); clear hb6)
        | (go_at_call 10; (with_reducible refine (HKN.out _ HB7.out).mono ?_); rintro e w7 ⟨rfl, hb7⟩; have HB8 := Lib.hid (HB7.out.trans (hb7.mono HB7.out.size)); clear hb7))
      go_ret
      exact ⟨rfl, HB8.out⟩
    · have hl1 : truV (decide (a < 0)) = 0 := by rw [decide_eq_false hlt]; rfl
      have hl2 : decide (a < 0) = false := by simpa using hlt
      rw [hl1] at HE3
      clear hl1
      go_enter Tryd.func6, Tryd.ntmps6
      go_wp2_with (first
        | (go_at_call 13; (with_reducible refine (HA.out _).mono ?_); rintro e w1 ⟨rfl, hb1⟩; have HB1 := Lib.hid hb1; clear hb1)
        | (go_at_call 13; (with_reducible refine (HBB.out _).mono ?_); rintro e w2 ⟨rfl, hb2⟩; have HB2 := Lib.hid (HB1.out.trans (hb2.mono HB1.out.size)); have HR := Lib.hid (Below.refl (w2.alloc (.cells #[.string ⟨#[97]⟩, .string TA, .string ⟨#[98]⟩, .string TB] 38)).heap.size (w2.alloc (.cells #[.string ⟨#[97]⟩, .string TA, .string ⟨#[98]⟩, .string TB] 38))); clear hb2)
        | (go_at_call 8; (with_reducible refine (HE1.out _ _ HB2.out HR.out).mono ?_); rintro e w3 ⟨rfl, hb3⟩; have HB3 := Lib.hid hb3; clear hb3)
        | (go_at_call 8; (with_reducible refine (HE2.out _ _ HB2.out HB3.out).mono ?_); rintro e w4 ⟨rfl, hb4⟩; have HB4 := Lib.hid (HB3.out.trans (hb4.mono HB3.out.size)); clear hb4)
        | (go_at_call 8; (with_reducible refine (HE3.out _ _ HB2.out HB4.out).mono ?_); rintro e w5 ⟨rfl, hb5⟩; have HB5 := Lib.hid (HB4.out.trans (hb5.mono HB4.out.size)); clear hb5)
        | (go_at_call 8; (with_reducible refine (HE4.out _ _ HB2.out HB5.out).mono ?_); rintro e w6 ⟨rfl, hb6⟩; have HB6 := Lib.hid (HB5.out.trans (hb6.mono HB5.out.size)); have HB7 := Lib.hid (HB2.out.trans (((Below.refl _ w2).alloc (Nat.le_refl _) (.cells #[.string ⟨#[97]⟩, .string TA, .string ⟨#[98]⟩, .string TB] 38)).trans (HB6.out.mono (by simp)) |>.mono HB2.out.size)); clear hb6)
        | (go_at_call 10; (with_reducible refine (HKN.out _ HB7.out).mono ?_); rintro e w7 ⟨rfl, hb7⟩; have HB8 := Lib.hid (HB7.out.trans (hb7.mono HB7.out.size)); clear hb7))
      go_ret
      exact ⟨rfl, HB8.out⟩
  · have hr := q0 hz
    subst hr
    clear q0 qz
    have hz1 : (b == 0) = false := by simpa using hz
    have hz2 : (b != 0) = true := by simpa using hz
    by_cases hlt : a < b
    · have hl1 : truV (decide (a < b)) = 1 := by rw [decide_eq_true hlt]; rfl
      rw [hl1] at HE3
      clear hl1
      go_enter Tryd.func6, Tryd.ntmps6
      go_wp2_with (first
        | (go_at_call 13; (with_reducible refine (HA.out _).mono ?_); rintro e w1 ⟨rfl, hb1⟩; have HB1 := Lib.hid hb1; clear hb1)
        | (go_at_call 13; (with_reducible refine (HBB.out _).mono ?_); rintro e w2 ⟨rfl, hb2⟩; have HB2 := Lib.hid (HB1.out.trans (hb2.mono HB1.out.size)); have HR := Lib.hid (Below.refl (w2.alloc (.cells #[.string ⟨#[97]⟩, .string TA, .string ⟨#[98]⟩, .string TB] 38)).heap.size (w2.alloc (.cells #[.string ⟨#[97]⟩, .string TA, .string ⟨#[98]⟩, .string TB] 38))); clear hb2)
        | (go_at_call 8; (with_reducible refine (HE1.out _ _ HB2.out HR.out).mono ?_); rintro e w3 ⟨rfl, hb3⟩; have HB3 := Lib.hid hb3; clear hb3)
        | (go_at_call 8; (with_reducible refine (HE2.out _ _ HB2.out HB3.out).mono ?_); rintro e w4 ⟨rfl, hb4⟩; have HB4 := Lib.hid (HB3.out.trans (hb4.mono HB3.out.size)); clear hb4)
        | (go_at_call 8; (with_reducible refine (HE3.out _ _ HB2.out HB4.out).mono ?_); rintro e w5 ⟨rfl, hb5⟩; have HB5 := Lib.hid (HB4.out.trans (hb5.mono HB4.out.size)); clear hb5)
        | (go_at_call 8; (with_reducible refine (HE4.out _ _ HB2.out HB5.out).mono ?_); rintro e w6 ⟨rfl, hb6⟩; have HB6 := Lib.hid (HB5.out.trans (hb6.mono HB5.out.size)); have HB7 := Lib.hid (HB2.out.trans (((Below.refl _ w2).alloc (Nat.le_refl _) (.cells #[.string ⟨#[97]⟩, .string TA, .string ⟨#[98]⟩, .string TB] 38)).trans (HB6.out.mono (by simp)) |>.mono HB2.out.size)); clear hb6)
        | (go_at_call 10; (with_reducible refine (HKN.out _ HB7.out).mono ?_); rintro e w7 ⟨rfl, hb7⟩; have HB8 := Lib.hid (HB7.out.trans (hb7.mono HB7.out.size)); clear hb7))
      go_ret
      exact ⟨rfl, HB8.out⟩
    · have hl1 : truV (decide (a < b)) = 0 := by rw [decide_eq_false hlt]; rfl
      have hl2 : decide (a < b) = false := by simpa using hlt
      rw [hl1] at HE3
      clear hl1
      go_enter Tryd.func6, Tryd.ntmps6
      go_wp2_with (first
        | (go_at_call 13; (with_reducible refine (HA.out _).mono ?_); rintro e w1 ⟨rfl, hb1⟩; have HB1 := Lib.hid hb1; clear hb1)
        | (go_at_call 13; (with_reducible refine (HBB.out _).mono ?_); rintro e w2 ⟨rfl, hb2⟩; have HB2 := Lib.hid (HB1.out.trans (hb2.mono HB1.out.size)); have HR := Lib.hid (Below.refl (w2.alloc (.cells #[.string ⟨#[97]⟩, .string TA, .string ⟨#[98]⟩, .string TB] 38)).heap.size (w2.alloc (.cells #[.string ⟨#[97]⟩, .string TA, .string ⟨#[98]⟩, .string TB] 38))); clear hb2)
        | (go_at_call 8; (with_reducible refine (HE1.out _ _ HB2.out HR.out).mono ?_); rintro e w3 ⟨rfl, hb3⟩; have HB3 := Lib.hid hb3; clear hb3)
        | (go_at_call 8; (with_reducible refine (HE2.out _ _ HB2.out HB3.out).mono ?_); rintro e w4 ⟨rfl, hb4⟩; have HB4 := Lib.hid (HB3.out.trans (hb4.mono HB3.out.size)); clear hb4)
        | (go_at_call 8; (with_reducible refine (HE3.out _ _ HB2.out HB4.out).mono ?_); rintro e w5 ⟨rfl, hb5⟩; have HB5 := Lib.hid (HB4.out.trans (hb5.mono HB4.out.size)); clear hb5)
        | (go_at_call 8; (with_reducible refine (HE4.out _ _ HB2.out HB5.out).mono ?_); rintro e w6 ⟨rfl, hb6⟩; have HB6 := Lib.hid (HB5.out.trans (hb6.mono HB5.out.size)); have HB7 := Lib.hid (HB2.out.trans (((Below.refl _ w2).alloc (Nat.le_refl _) (.cells #[.string ⟨#[97]⟩, .string TA, .string ⟨#[98]⟩, .string TB] 38)).trans (HB6.out.mono (by simp)) |>.mono HB2.out.size)); clear hb6)
        | (go_at_call 10; (with_reducible refine (HKN.out _ HB7.out).mono ?_); rintro e w7 ⟨rfl, hb7⟩; have HB8 := Lib.hid (HB7.out.trans (hb7.mono HB7.out.size)); clear hb7))
      go_ret
      exact ⟨rfl, HB8.out⟩
theorem sums_law (a b : Int) (w : World) (hg : GlobA w) (h7 : 7 ≤ w.heap.size) :
    Calls Tryd.prog 6 #[.int .i64 a, .int .i64 b] w fun e w' => e = .returned (.bool true) ∧ Below w.heap.size w w' := by
  by_cases h : Near a ∧ Near b
  · exact sums_in a b w h.1 h.2 hg h7
  · exact sums_out a b w h
end Go.Proofs.YtlgbfhjbfolibaaDoor
