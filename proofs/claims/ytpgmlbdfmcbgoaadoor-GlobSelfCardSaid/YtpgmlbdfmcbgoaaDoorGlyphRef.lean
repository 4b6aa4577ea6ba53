/-
  Proved: contracts of the statements' own Valid, Runes and Name, by a text's letters. Conditions: at most 1000 bytes; the library's tables lie as they should.
-/
import Derived.Test.YtpgmlbdfmcbgoaaDoorGlyphSame
import Derived.Test.YtpgmlbdfmcbgoaaDoorGlyphTabs
import Derived.Test.YtpgmlbdfmcbgoaaDoorGlyphRLet
namespace Go.Proofs.YtpgmlbdfmcbgoaaDoor
open Go Go.RowKit GlyphMath

theorem rest_tail (s : ByteArray) (n : Nat) : ∀ k i, s.size - (n + i) ≤ k → rest (s.extract n s.size) i = rest s (n + i)
  | 0, i, h => by rw [rest_end _ _ (by rw [Lib.tail_size]; omega), rest_end _ _ (by omega)]
  | k + 1, i, h => by
    by_cases hp : n + i < s.size
    · have hw := width_pos s (n + i) hp
      rw [rest_step _ _ (by rw [Lib.tail_size]; omega), rest_step _ _ hp, Lib.tail_decode, rest_tail s n k _ (by omega), Nat.add_assoc]
    · rw [rest_end _ _ (by rw [Lib.tail_size]; omega), rest_end _ _ (by omega)]
theorem letters_tail (t : ByteArray) (h : 0 < t.size) : letters t = (Utf8.decode t 0).1 :: letters (t.extract (Utf8.decode t 0).2 t.size) := by
  have e := rest_step t 0 h
  rw [rest_zero, Nat.zero_add] at e
  rw [e, ← rest_zero (t.extract _ _), rest_tail t _ t.size 0 (by omega), Nat.add_zero]

theorem rvalid_any (s : ByteArray) (w : World) (hs : s.size ≤ 9223372036854775807) (hT : Tabs w) :
    Calls Tryd.prog 12 #[.string s] w fun e w' => e = .returned (.tuple #[.int .i64 (place s : Int), .bool (isText s)]) ∧ Below w.heap.size w w' := by
  have HT := Lib.hid hT
  have HS := Lib.hid hs
  clear hT hs
  go_enter Tryd.func12, Tryd.ntmps12
  go_wp2_with fail
  go_loopw [4] (fun i wr => ∃ pos : Nat, i = .int .i64 (pos : Int) ∧ pos ≤ s.size ∧ badFrom s pos = firstBad s ∧ Below w.heap.size w wr) (fun i _ => s.size - (intOf i).toNat)
  case atStart => exact ⟨0, rfl, Nat.zero_le _, rfl, Below.refl _ _⟩
  case round =>
    obtain ⟨pos, rfl, hle, hk, hb⟩ := hrel
    have HB := Lib.hid hb
    have HTr := Lib.hid (HT.out.below hb)
    clear hb
    by_cases hp : pos < s.size
    · obtain ⟨r, d, hd⟩ : ∃ r d, Utf8.decode s pos = (r, d) := ⟨_, _, rfl⟩
      have hc := dec_at s pos wr hp HTr.out
      have hwd := width_pos s pos hp
      have hwl := width_le s pos hp
      rw [badFrom_step s pos hp, hd] at hk
      unfold bad at hk
      rw [hd] at hwd hwl hk hc
      simp only at hk hwd hwl hc
      have HC := Lib.hid hc
      have HW := Lib.hid (And.intro hwd hwl)
      have hpi : (pos : Int) < s.size := by omega
      have had : (pos : Int) + d ≤ 9223372036854775807 := by have := HS.out; omega
      have E1 := Lib.hid (fun (h : badFrom s (pos + d) = firstBad s) => h)
      clear hd hc hwd hwl hp
      by_cases b0 : r = 0
      · subst b0
        have E := Lib.hid (show place s = pos ∧ isText s = false by constructor <;> (first | unfold place | unfold isText) <;> rw [← hk] <;> rfl)
        clear hk E1
        go_wp2_with (go_at_call 22; refine HC.out.mono ?_; rintro e w1 ⟨rfl, hb1⟩; have H1 := Lib.hid hb1; clear hb1)
        go_ret2
        exact ⟨by rw [E.out.1, E.out.2]; rfl, HB.out.trans (H1.out.mono HB.out.size)⟩
      · have b0' : ((r : Int) == 0) = false := by simpa using b0
        have c0 : (r == 0) = false := by simpa using b0
        by_cases b1 : r = 65533
        · subst b1
          by_cases b2 : d = 1
          · subst b2
            have E := Lib.hid (show place s = pos ∧ isText s = false by constructor <;> (first | unfold place | unfold isText) <;> rw [← hk] <;> rfl)
            clear hk E1 b0 c0
            go_wp2_with (go_at_call 22; refine HC.out.mono ?_; rintro e w1 ⟨rfl, hb1⟩; have H1 := Lib.hid hb1; clear hb1)
            go_ret2
            exact ⟨by rw [E.out.1, E.out.2]; rfl, HB.out.trans (H1.out.mono HB.out.size)⟩
          · have b2' : ((d : Int) == 1) = false := by
              have : ¬ (d : Int) = 1 := by omega
              simpa using this
            have c2 : (d == 1) = false := by simpa using b2
            have HK := Lib.hid (show badFrom s (pos + d) = firstBad s by rw [← hk, c2]; rfl)
            clear hk E1 b0 c0 b2 c2
            go_wp2_with (go_at_call 22; refine HC.out.mono ?_; rintro e w1 ⟨rfl, hb1⟩; have H1 := Lib.hid hb1; clear hb1)
            go_roundw
            case rel => exact ⟨pos + d, by go_num, HW.out.2, HK.out, HB.out.trans (H1.out.mono HB.out.size)⟩
            case measure => have := HW.out; simp [intOf]; omega
        · have b1' : ((r : Int) == 65533) = false := by
            have : ¬ (r : Int) = 65533 := by omega
            simpa using this
          have c1 : (r == 65533) = false := by simpa using b1
          have HK := Lib.hid (show badFrom s (pos + d) = firstBad s by rw [← hk, c0, c1]; rfl)
          clear hk E1 b0 c0 b1 c1
          go_wp2_with (go_at_call 22; refine HC.out.mono ?_; rintro e w1 ⟨rfl, hb1⟩; have H1 := Lib.hid hb1; clear hb1)
          go_roundw
          case rel => exact ⟨pos + d, by go_num, HW.out.2, HK.out, HB.out.trans (H1.out.mono HB.out.size)⟩
          case measure => have := HW.out; simp [intOf]; omega
    · obtain rfl : pos = s.size := by omega
      rw [badFrom_end s _ hp] at hk
      have E := Lib.hid (show place s = s.size ∧ isText s = true by constructor <;> (first | unfold place | unfold isText) <;> rw [← hk] <;> rfl)
      clear hk hp hle
      go_wp2_with fail
      go_ret2
      exact ⟨by rw [E.out.1, E.out.2]; rfl, HB.out⟩
end Go.Proofs.YtpgmlbdfmcbgoaaDoor
