/-
  Proved: the contract of the statements' own known. Conditions: none.
-/
import Derived.Test.YtpgmlbdfmcbgoaaDoorGlChars
namespace Go.Proofs.YtpgmlbdfmcbgoaaDoor
open Go Go.RowKit GlyphMath GlMath

theorem kn_yes : globM (chM false (letters ⟨#[97, 42, 91, 33, 98, 45, 100, 93]⟩)) ((letters ⟨#[97, 120, 101]⟩).map fun (x : Nat) => (x : Int)) = true := by decide +kernel
theorem kn_no : globM (chM false (letters ⟨#[97, 42, 91, 33, 98, 45, 100, 93]⟩)) ((letters ⟨#[97, 120, 99]⟩).map fun (x : Nat) => (x : Int)) = false := by decide +kernel
theorem kn_has : hasM (chM false (letters ⟨#[97, 42, 91, 33, 98, 45, 100, 93]⟩)) = true := by decide +kernel
theorem kn_hasq : hasM (chM true (letters ⟨#[42]⟩)) = false := by decide +kernel
set_option maxHeartbeats 1000000 in
theorem known_any (w : World) : Calls Tryd.prog 11 #[] w fun e w' => e = .returned (.bool true) ∧ Below w.heap.size w w' := by
  obtain ⟨L, hL⟩ : ∃ L, chM false (letters ⟨#[97, 42, 91, 33, 98, 45, 100, 93]⟩) = L := ⟨_, rfl⟩
  obtain ⟨K, hK⟩ : ∃ K, chM true (letters ⟨#[42]⟩) = K := ⟨_, rfl⟩
  have HC1 := Lib.hid (fun W => chars_any ⟨#[97, 42, 91, 33, 98, 45, 100, 93]⟩ false W (by decide))
  have HC2 := Lib.hid (fun W => chars_any ⟨#[42]⟩ true W (by decide))
  rw [hL] at HC1
  rw [hK] at HC2
  have hlen : L.length ≤ 100000 := by rw [← hL, chM_length]; exact Nat.le_trans (letters_length _) (by decide)
  have HM1 := Lib.hid (fun (v : Value) (V : World) (hv : ChAt V v L) => (show Calls Tryd.prog 8 #[v, .string ⟨#[97, 120, 101]⟩] V fun e w' => e = .returned (.bool true) ∧ Below V.heap.size V w' from by
    have h := match_in L v ⟨#[97, 120, 101]⟩ V hv hlen (by decide)
    rwa [← hL, kn_yes] at h))
  have HM2 := Lib.hid (fun (v : Value) (V : World) (hv : ChAt V v L) => (show Calls Tryd.prog 8 #[v, .string ⟨#[97, 120, 99]⟩] V fun e w' => e = .returned (.bool false) ∧ Below V.heap.size V w' from by
    have h := match_in L v ⟨#[97, 120, 99]⟩ V hv hlen (by decide)
    rwa [← hL, kn_no] at h))
  have HH1 := Lib.hid (fun (v : Value) (V : World) (hv : ChAt V v L) => (show Calls Tryd.prog 9 #[v] V fun e w' => e = .returned (.bool true) ∧ Below V.heap.size V w' from by
    have h := has_any L v V hv
    rwa [← hL, kn_has] at h))
  have HH2 := Lib.hid (fun (v : Value) (V : World) (hv : ChAt V v K) => (show Calls Tryd.prog 9 #[v] V fun e w' => e = .returned (.bool false) ∧ Below V.heap.size V w' from by
    have h := has_any K v V hv
    rwa [← hK, kn_hasq] at h))
  obtain ⟨n1, hn1⟩ : ∃ n, (letters ⟨#[97, 42, 91, 33, 98, 45, 100, 93]⟩).length = n := ⟨_, rfl⟩
  obtain ⟨n2, hn2⟩ : ∃ n, (letters ⟨#[42]⟩).length = n := ⟨_, rfl⟩
  rw [hn1] at HC1
  rw [hn2] at HC2
  clear hL hK hlen hn1 hn2
  go_enter Tryd.func11, Tryd.ntmps11
  go_wp2_with (first
    | (go_at_call 5; (with_reducible refine (HC1.out _).mono ?_); rintro e w1 ⟨g1, c1, rfl, hr1, hb1⟩; have HA1 := Lib.hid hr1.at_; have HB1 := Lib.hid hb1; clear hb1 hr1 HC1)
    | (go_at_call 8; (with_reducible refine (HM1.out _ _ HA1.out).mono ?_); rintro e w2 ⟨rfl, hb2⟩; have HA2 := Lib.hid (HA1.out.below hb2); have HB2 := Lib.hid (HB1.out.trans (hb2.mono HB1.out.size)); clear hb2 HM1)
    | (go_at_call 8; (with_reducible refine (HM2.out _ _ HA2.out).mono ?_); rintro e w3 ⟨rfl, hb3⟩; have HA3 := Lib.hid (HA2.out.below hb3); have HB3 := Lib.hid (HB2.out.trans (hb3.mono HB2.out.size)); clear hb3 HM2)
    | (go_at_call 9; (with_reducible refine (HH1.out _ _ HA3.out).mono ?_); rintro e w4 ⟨rfl, hb4⟩; have HB4 := Lib.hid (HB3.out.trans (hb4.mono HB3.out.size)); clear hb4 HH1)
    | (go_at_call 5; (with_reducible refine (HC2.out _).mono ?_); rintro e w5 ⟨g5, c5, rfl, hr5, hb5⟩; have HA5 := Lib.hid hr5.at_; have HB5 := Lib.hid (HB4.out.trans (hb5.mono HB4.out.size)); clear hb5 hr5 HC2)
    | (go_at_call 9; (with_reducible refine (HH2.out _ _ HA5.out).mono ?_); rintro e w6 ⟨rfl, hb6⟩; have HB6 := Lib.hid (HB5.out.trans (hb6.mono HB5.out.size)); clear hb6 HH2))
  go_ret
  exact ⟨rfl, HB6.out⟩
end Go.Proofs.YtpgmlbdfmcbgoaaDoor
