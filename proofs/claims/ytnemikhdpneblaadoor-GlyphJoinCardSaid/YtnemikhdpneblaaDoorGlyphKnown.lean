/-
  Proved: the law's own check (known) is true. Conditions: none.
-/
import Derived.Test.YtnemikhdpneblaaDoorGlyphCode
import Derived.KernelRfl
namespace Go.Proofs.YtnemikhdpneblaaDoor
open Go Go.RowKit GlyphMath

theorem k_valid : place ⟨#[97, 255]⟩ = 1 ∧ isText ⟨#[97, 255]⟩ = false := by constructor <;> kernel_rfl
theorem k_count : (letters ⟨#[195, 169, 49]⟩).length = 2 := by kernel_rfl
theorem k_name : nameL (letters ⟨#[195, 169, 49]⟩) = false ∧ nameL (letters ⟨#[95, 97, 49]⟩) = true := by constructor <;> kernel_rfl

theorem kc_valid (w : World) : Calls Tryd.prog 5 #[.string ⟨#[97, 255]⟩] w fun e w' => e = .returned (.tuple #[.int .i64 1, .bool false]) ∧ Below w.heap.size w w' := by
  have h := valid_any ⟨#[97, 255]⟩ w
  rw [k_valid.1, k_valid.2] at h
  exact h
theorem kc_count (w : World) : Calls Tryd.prog 10 #[.string ⟨#[195, 169, 49]⟩] w fun e w' => e = .returned (.int .i64 2) ∧ Below w.heap.size w w' := by
  have h := count_any ⟨#[195, 169, 49]⟩ w (by decide)
  rw [k_count] at h
  exact h
theorem kc_not (w : World) : Calls Tryd.prog 11 #[.string ⟨#[195, 169, 49]⟩] w fun e w' => e = .returned (.bool false) ∧ Below w.heap.size w w' := by
  have h := name_any ⟨#[195, 169, 49]⟩ w
  rw [k_name.1] at h
  exact h
theorem kc_name (w : World) : Calls Tryd.prog 11 #[.string ⟨#[95, 97, 49]⟩] w fun e w' => e = .returned (.bool true) ∧ Below w.heap.size w w' := by
  have h := name_any ⟨#[95, 97, 49]⟩ w
  rw [k_name.2] at h
  exact h

theorem known_any (w : World) :
    Calls Tryd.prog 13 #[] w fun e w' => e = .returned (.bool true) ∧ Below w.heap.size w w' := by
  go_enter Tryd.func13, Tryd.ntmps13
  go_wp2_with fail
  refine (kc_valid w).mono ?_
  rintro e w1 ⟨rfl, hb1⟩
  have H1 := Lib.hid hb1
  clear hb1
  go_wp2_with fail
  refine (kc_count w1).mono ?_
  rintro e w2 ⟨rfl, hb2⟩
  have H2 := Lib.hid (H1.out.trans (hb2.mono H1.out.size))
  clear hb2 H1
  go_wp2_with fail
  refine (kc_not w2).mono ?_
  rintro e w3 ⟨rfl, hb3⟩
  have H3 := Lib.hid (H2.out.trans (hb3.mono H2.out.size))
  clear hb3 H2
  go_wp2_with fail
  refine (kc_name w3).mono ?_
  rintro e w4 ⟨rfl, hb4⟩
  have H4 := Lib.hid (H3.out.trans (hb4.mono H3.out.size))
  clear hb4 H3
  go_wp2_with fail
  go_ret
  exact ⟨rfl, H4.out⟩
end Go.Proofs.YtnemikhdpneblaaDoor
