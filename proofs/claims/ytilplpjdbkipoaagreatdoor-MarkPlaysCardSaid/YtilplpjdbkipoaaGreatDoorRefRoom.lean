/-
  Proved: what the statements' own Get of chapter 4, Room of chapter 5 answer, by their disk's model. Conditions: the disk lies in memory.
-/
import Derived.Test.YtilplpjdbkipoaaGreatDoorRefSpans
import Derived.Test.YtilplpjdbkipoaaGreatDoorSlotMath
namespace Go.Proofs.YtilplpjdbkipoaaGreatDoor
open Go Go.RowKit DiskMath NetMem SpanMath SumMath

theorem rget_at {w0 w : World} {D : Nat → Prop} {p : Value} {d : Dk} (h : RefAt w0 w D p d) (at_ room : Int) :
    Calls Tryz.prog 36 #[p, .int .i64 at_, .int .i64 room] w (GetSaid (spanGet d at_ room) w) := by
  by_cases hi : d.has at_ = true
  · have hb : 0 ≤ at_ ∧ at_ < (d.s.length : Int) := by simpa [Dk.has] using hi
    obtain ⟨a, rfl⟩ := Int.eq_ofNat_of_zero_le hb.1
    exact rget_in h a room (by omega)
  · have hi' : d.has at_ = false := by simpa using hi
    exact (rget_out h at_ room hi').mono fun e w' ⟨he, hw⟩ => by
      subst hw; subst he
      exact getSaid_none (by unfold spanGet; rw [if_pos hi']) (Below.refl _ _)

theorem rroom_at {w0 w : World} {D : Nat → Prop} {p : Value} {d : Dk} (h : RefAt w0 w D p d) :
    Calls Tryz.prog 17 #[p] w fun e w' => e = .returned (.int .i64 (room d : Nat)) ∧ w = w' := by
  have hl : d.s.length ≤ 4000 := h.max
  obtain ⟨g, a, c, rfl, hc⟩ := h.sectors
  have HR := Lib.hid (show (3 : Int) * (d.s.length : Int) / 8 = ((room d : Nat) : Int) from by unfold room; omega)
  obtain ⟨N, hN⟩ : ∃ N, N = d.s.length := ⟨_, rfl⟩
  rw [← hN] at hc HR hl
  have h0 : (0 : Int) ≤ (N : Int) := by omega
  have h1 : (N : Int) ≤ 4000 := by omega
  clear h hl hN
  go_enter Tryz.func17, Tryz.ntmps17
  go_wp2_with fail
  go_ret
  exact ⟨ret_int (by have := HR.out; omega), rfl⟩
theorem rroom_le {w0 w : World} {D : Nat → Prop} {p : Value} {d : Dk} (h : RefAt w0 w D p d) : room d ≤ 1500 := by
  have hl := h.max
  unfold room; omega

end Go.Proofs.YtilplpjdbkipoaaGreatDoor
