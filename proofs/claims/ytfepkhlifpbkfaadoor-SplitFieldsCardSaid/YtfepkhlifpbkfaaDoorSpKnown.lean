/-
  Proved: contract of the statements' own known. Conditions: none.
-/
import Derived.Test.YtfepkhlifpbkfaaDoorSpFields
import Derived.Test.YtfepkhlifpbkfaaDoorSpText
namespace Go.Proofs.YtfepkhlifpbkfaaDoor
open Go Go.RowKit GlyphMath GlMath SpMath

def kn1 : Rn := ⟨⟨#[97, 32, 98]⟩, false, true, false⟩
def kn2 : Rn := ⟨⟨#[99]⟩, true, false, false⟩
theorem kn_fields : fieldsM [kn1, kn2] = [[(97, false)], [(98, false), (99, true)]] := by decide +kernel
theorem kn_a : txF [(97, false)] = ⟨#[97]⟩ := by decide +kernel
theorem kn_bc : txF [(98, false), (99, true)] = ⟨#[98, 99]⟩ := by decide +kernel
/-- Two of them. -/
theorem Rds.two {w : World} {v : Value} {l m : List Ch} (h : Rds w v [l, m]) : ∃ (c b o : Nat) (s t : Sl), v = .slice (some ⟨b, o, none⟩) 2 c ∧ w.cell? ⟨b, o, none⟩ = some (slV s) ∧ w.cell? ⟨b, o + 1, none⟩ = some (slV t) ∧ Rd 2 cC w (slV s) l ∧ Rd 2 cC w (slV t) m := by
  obtain ⟨vs, h1, h2, h3⟩ := h.is
  match vs, h2 with
  | [s, t], _ =>
    obtain ⟨p, c, rfl⟩ := h1.shape
    obtain ⟨b, o, hp, hc⟩ := h1.get (k := 0) (x := s) rfl
    subst hp
    have e0 := hc 0 s rfl 0 _ rfl
    have e1 := hc 1 t rfl 0 _ rfl
    exact ⟨c, b, o, s, t, rfl, by simpa using e0, by simpa using e1, h3 0 s l rfl rfl, h3 1 t m rfl rfl⟩
set_option maxHeartbeats 1000000 in
theorem known_any (w : World) :
    Calls Tryd.prog 12 #[] w fun e w' => e = .returned (.bool true) ∧ Below w.heap.size w w' := by
  obtain ⟨W1, hW1⟩ : ∃ W1, w.alloc (.cells #[.string ⟨#[97, 32, 98]⟩, .bool false, .bool true, .bool false, .string ⟨#[99]⟩, .bool true, .bool false, .bool false] 24) = W1 := ⟨_, rfl⟩
  have HR := Lib.hid (show Rd 4 rnC W1 (.slice (some ⟨w.heap.size, 0, none⟩) 2 2) [kn1, kn2] from by
    rw [← hW1]
    exact Rd.of_own rnE (World.ownsRow_lit (base := w.heap.size) (e := 24) (size := 4) w _ 2 (Nat.le_refl _) (by decide) rfl))
  have HB1 := Lib.hid (show Below w.heap.size w W1 from by rw [← hW1]; exact (Below.refl _ w).alloc (Nat.le_refl _) _)
  have HC := Lib.hid (fields_any [kn1, kn2] _ W1 HR.out (by decide) (by intro x hx; simp at hx; rcases hx with rfl | rfl <;> decide))
  rw [kn_fields] at HC
  go_enter Tryd.func12, Tryd.ntmps12
  go_wp2_with (first
    | (rw [hW1]; clear hW1)
    | (go_at_call 6; refine HC.out.mono ?_; rintro e w2 ⟨u, rfl, hr2, hb2⟩; obtain ⟨c, b, o, ⟨sp, sn, sc⟩, ⟨tp, tn, tc⟩, rfl, e0, e1, r0, r1⟩ := hr2.two; simp only [slV] at e0 e1 r0 r1; have HB2 := Lib.hid (HB1.out.trans (hb2.mono HB1.out.size)); have HT0 := Lib.hid (fun V hb => rtext_any _ _ V (r0.below (B := w2.heap.size) hb (Nat.le_refl _)) (by decide)); have HT1 := Lib.hid (fun V hb => rtext_any _ _ V (r1.below (B := w2.heap.size) hb (Nat.le_refl _)) (by decide)); rw [kn_a] at HT0; rw [kn_bc] at HT1; clear hr2 hb2 r0 r1 HC)
    | (go_at_call 13; (with_reducible refine (HT0.out _ (Below.refl _ _)).mono ?_); rintro e w3 ⟨rfl, hb3⟩; have HB3 := Lib.hid hb3; have e1' := (hb3.cell (World.block_lt_of_cell? _ _ e1)).trans e1; clear hb3 HT0)
    | (go_at_call 13; (with_reducible refine (HT1.out _ HB3.out).mono ?_); rintro e w4 ⟨rfl, hb4⟩; have HB4 := Lib.hid hb4; clear hb4 HT1))
  go_ret
  exact ⟨rfl, HB2.out.trans ((HB3.out.trans (HB4.out.mono HB3.out.size)).mono HB2.out.size)⟩
end Go.Proofs.YtfepkhlifpbkfaaDoor
