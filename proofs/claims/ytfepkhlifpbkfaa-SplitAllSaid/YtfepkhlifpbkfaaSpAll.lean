/-
  Proved: of any text the law SplitAll answers true; nothing that was there has turned. Conditions: none.
-/
import Derived.Test.YtfepkhlifpbkfaaSpLine
import Derived.Test.YtfepkhlifpbkfaaSpKnown
namespace Go.Proofs.Ytfepkhlifpbkfaa
open Go Go.RowKit GlyphMath SpMath

theorem empty_size : (⟨#[]⟩ : ByteArray).size = 0 := rfl
theorem append_nil (a : ByteArray) : a ++ (⟨#[]⟩ : ByteArray) = a := data_ext (by simp [ByteArray.data_append])
set_option maxHeartbeats 2000000 in
theorem splitAll_law (s : ByteArray) (w : World) :
    Calls Try.prog 5 #[.string s] w fun e w' => e = .returned (.bool true) ∧ Below w.heap.size w w' := by
  by_cases hbig : 200 < s.size
  · have hI : (200 : Int) < (s.size : Int) := by omega
    go_enter Try.func5, Try.ntmps5
    go_wp2_with fail
    go_ret
    exact ⟨rfl, Below.refl _ _⟩
  · have hI : ¬ (200 : Int) < (s.size : Int) := by omega
    have HS := Lib.hid (show s.size ≤ 200 by omega)
    clear hbig
    go_enter Try.func5, Try.ntmps5
    go_wp2_with fail
    go_loopw [3, 4, 5] (fun r a i wr => ∃ (k : Nat) (R T : ByteArray), i = .int .i64 (k : Int) ∧ r = .string R ∧ a = .string T ∧ T ++ R = s ∧ k + R.size ≤ s.size ∧ Below w.heap.size w wr) (fun _ _ i _ => s.size + 1 - (intOf i).toNat)
    case atStart => exact ⟨0, s, ⟨#[]⟩, rfl, rfl, rfl, data_ext (by simp [ByteArray.data_append]), by omega, Below.refl _ _⟩
    case round =>
      obtain ⟨k, R, T, rfl, rfl, rfl, hTR, hkR, hb⟩ := hrel
      have HB := Lib.hid hb
      have hleI : (k : Int) ≤ (s.size : Int) := by omega
      have hk1 : (k : Int) + 1 ≤ 9223372036854775807 := by have := HS.out; omega
      have hRs : R.size ≤ 200 := by have := HS.out; omega
      have hTs : T.size + R.size = s.size := by rw [← hTR, ByteArray.size_append]
      have HTR := Lib.hid hTR
      have HKR := Lib.hid hkR
      have HL := Lib.hid (lines_any R wr (by omega))
      by_cases h0 : 0 < R.size
      · rw [decide_eq_true h0] at HL
        rcases nl_cases R with ⟨hn, -⟩ | ⟨i, hn, -, hi, -⟩
        · obtain ⟨e1, e2⟩ := line_miss hn
          rw [e1, e2] at HL
          obtain ⟨rs, hrs⟩ : ∃ rs : Int, (R.size : Int) = rs := ⟨_, rfl⟩
          have g1 : decide (rs ≤ 0) = false := decide_eq_false (by omega)
          have g3 : ¬ 9223372036854775807 < T.size + R.size := by have := HS.out; omega
          have g4 : IntKind.i64.wrap rs = rs := IntWalk.i64_in _ ⟨by omega, by omega⟩
          have g5 : decide (rs < rs) = false := decide_eq_false (by omega)
          have HH0 := Lib.hid h0
          clear hTR hkR hb hRs hTs hn e1 e2 h0
          go_wp2_with (go_at_call 6; (with_reducible refine HL.out.mono ?_); rintro e w1 ⟨rfl, hb⟩; have B1 := Lib.hid (HB.out.trans (hb.mono HB.out.size)); clear hb)
          go_roundw
          case rel => exact ⟨k + 1, ⟨#[]⟩, T ++ R, by simp, rfl, rfl, by rw [append_nil]; exact HTR.out, by have := HKR.out; have := HH0.out; simp only [empty_size]; omega, B1.out⟩
          case measure => simp [intOf]; omega
        · obtain ⟨e1, e2⟩ := line_hit hn
          obtain ⟨A, hA⟩ : ∃ A, lineM R = A := ⟨_, rfl⟩
          obtain ⟨M, hM⟩ : ∃ M, moreM R = M := ⟨_, rfl⟩
          rw [hA, hM] at e1 e2 HL
          obtain ⟨rs, hrs⟩ : ∃ rs : Int, (R.size : Int) = rs := ⟨_, rfl⟩
          obtain ⟨ms, hms⟩ : ∃ ms : Int, (M.size : Int) = ms := ⟨_, rfl⟩
          obtain ⟨ls, hls⟩ : ∃ ls : Int, (A.size : Int) = ls := ⟨_, rfl⟩
          have g1 : decide (rs ≤ ms) = false := decide_eq_false (by omega)
          have g3 : ¬ 9223372036854775807 < T.size + A.size := by have := HS.out; omega
          have g4 : ¬ 9223372036854775807 < T.size + A.size + 1 := by have := HS.out; omega
          have g5 : decide (ls + ms < rs) = true := decide_eq_true (by omega)
          have g6 : IntKind.i64.wrap (ls + ms) = ls + ms := IntWalk.i64_in _ ⟨by omega, by omega⟩
          have HH0 := Lib.hid h0
          have HE := Lib.hid (And.intro e1 e2)
          clear hTR hkR hb hRs hTs hn e1 e2 hA hM hi h0
          go_wp2_with (go_at_call 6; (with_reducible refine HL.out.mono ?_); rintro e w1 ⟨rfl, hb⟩; have B1 := Lib.hid (HB.out.trans (hb.mono HB.out.size)); clear hb)
          go_roundw
          case rel => exact ⟨k + 1, M, T ++ A ++ ⟨#[10]⟩, by simp, rfl, rfl, by rw [← HTR.out, ← HE.out.1]; simp only [ByteArray.append_assoc], by have := HKR.out; have := HE.out.2; omega, B1.out⟩
          case measure => simp [intOf]; omega
      · rw [decide_eq_false h0] at HL
        obtain rfl := size_nil R h0
        have hT : T = s := by rw [← hTR, append_nil]
        subst hT
        clear hTR hkR hb hRs hTs h0
        go_wp2_with (first
          | (go_at_call 6; (with_reducible refine HL.out.mono ?_); rintro e w1 ⟨rfl, hb⟩; have B1 := Lib.hid (HB.out.trans (hb.mono HB.out.size)); clear hb)
          | (go_at_call 11; (with_reducible refine (known_any _).mono ?_); rintro e w6 ⟨rfl, hb⟩; have B6 := Lib.hid (B1.out.trans (hb.mono B1.out.size)); clear hb))
        go_ret
        exact ⟨rfl, B6.out⟩
end Go.Proofs.Ytfepkhlifpbkfaa
