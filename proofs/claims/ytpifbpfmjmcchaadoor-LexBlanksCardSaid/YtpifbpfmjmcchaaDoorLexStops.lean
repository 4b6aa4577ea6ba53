/-
  Proved: what each of the program's function values says of a letter that is handed to till. Conditions: as each says.
-/
import Derived.Test.YtpifbpfmjmcchaaDoorLexTill
namespace Go.Proofs.YtpifbpfmjmcchaaDoor
open Go Go.RowKit GlyphMath LexMath

theorem int_eq (r k : Nat) : ((r : Int) == (k : Int)) = (r == k) := by
  apply Bool.eq_iff_iff.2
  rw [beq_iff_eq, beq_iff_eq]
  omega

theorem stops_quote : Stops 68 #[] (fun r => r == 39) (fun _ => True) where
  enter := enters_of Tryd.func68 (by kernel_rfl) rfl
  call := fun r W _ _ => by
    have HR := Lib.hid (int_eq r 39)
    show Calls Tryd.prog 68 #[.int .i32 (r : Int)] W _
    go_enter Tryd.func68, Tryd.ntmps68
    go_wp2_with fail
    go_ret
    exact ⟨ret_bool HR.out, Below.refl _ _⟩
theorem stops_lf : Stops 27 #[] (fun r => r == 10) (fun _ => True) where
  enter := enters_of Tryd.func27 (by kernel_rfl) rfl
  call := fun r W _ _ => by
    have HR := Lib.hid (int_eq r 10)
    show Calls Tryd.prog 27 #[.int .i32 (r : Int)] W _
    go_enter Tryd.func27, Tryd.ntmps27
    go_wp2_with fail
    go_ret
    exact ⟨ret_bool HR.out, Below.refl _ _⟩
theorem stops_blank : Stops 25 #[] (fun r => r != 32 && r != 9) (fun _ => True) where
  enter := enters_of Tryd.func25 (by kernel_rfl) rfl
  call := fun r W _ _ => by
    show Calls Tryd.prog 25 #[.int .i32 (r : Int)] W _
    by_cases h1 : r = 32
    · subst h1
      go_enter Tryd.func25, Tryd.ntmps25
      go_wp2_with fail
      go_ret
      exact ⟨rfl, Below.refl _ _⟩
    · have e1 : ((r : Int) != 32) = true := by
        have : ¬ (r : Int) = 32 := by omega
        simpa using this
      have HR := Lib.hid (show ((r : Int) != 9) = (r != 32 && r != 9) by
        have h2 := int_eq r 9
        have h3 : (r != 32) = true := by simpa using h1
        rw [h3, Bool.true_and]
        show (!((r : Int) == 9)) = !(r == 9)
        rw [← h2]; rfl)
      clear h1
      go_enter Tryd.func25, Tryd.ntmps25
      go_wp2_with fail
      go_ret
      exact ⟨ret_bool HR.out, Below.refl _ _⟩
theorem stops_name : Stops 85 #[] (fun r => !moreR r) (fun _ => True) where
  enter := enters_of Tryd.func85 (by kernel_rfl) rfl
  call := fun r W _ _ => by
    show Calls Tryd.prog 85 #[.int .i32 (r : Int)] W _
    go_enter Tryd.func85, Tryd.ntmps85
    go_wp2_with (go_at_call 86; refine (more_any _ _).mono ?_; rintro e w1 ⟨rfl, rfl⟩)
    go_ret
    exact ⟨rfl, Below.refl _ _⟩
theorem stops_acts : Stops 75 #[] acts (fun _ => True) where
  enter := enters_of Tryd.func75 (by kernel_rfl) rfl
  call := fun r W hr _ => acts_any r hr W
theorem stops_part (D n : Nat) : Stops 60 #[.pointer (some ⟨D, 0, none⟩)] (fun r => begins r || ends r (decide (0 < n))) (fun W => W.cell? ⟨D, 0, none⟩ = some (.int .i64 (n : Int))) where
  enter := enters_of Tryd.func60 (by kernel_rfl) rfl
  call := fun r W hr hW => by
    show Calls Tryd.prog 60 #[.int .i32 (r : Int), .pointer (some ⟨D, 0, none⟩)] W _
    have HB := Lib.hid (begins_any r hr W)
    obtain ⟨b, hb⟩ : ∃ b, begins r = b := ⟨_, rfl⟩
    have HR := Lib.hid hr
    rw [hb] at HB
    rw [hb]
    clear hr hb
    cases b
    all_goals
      go_enter Tryd.func60, Tryd.ntmps60
      go_wp2_with (first
        | (go_at_call 61; refine HB.out.mono ?_; rintro e w1 ⟨rfl, hb1⟩; have HB1 := Lib.hid hb1; have hc1 := (hb1.cell (World.block_lt_of_cell? W _ hW)).trans hW; have HE := Lib.hid (ends_any r n HR.out w1); clear hb1)
        | (go_at_call 43; refine HE.out.mono ?_; rintro e w2 ⟨rfl, hb2⟩; have HB2 := Lib.hid hb2; clear hb2))
      go_ret
    · exact ⟨by simp, HB1.out.trans (HB2.out.mono HB1.out.size)⟩
    · exact ⟨by simp, HB1.out⟩
end Go.Proofs.YtpifbpfmjmcchaaDoor
