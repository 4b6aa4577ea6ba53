/-
  Proved: contracts of Lines and of the statements' own Lines. Conditions: at most 1048576 bytes.
-/
import Derived.Test.YtfepkhlifpbkfaaSpLineM
import Derived.Test.YtfepkhlifpbkfaaSpMem
import Derived.Test.YtfepkhlifpbkfaaShelf
namespace Go.Proofs.Ytfepkhlifpbkfaa
open Go Go.RowKit GlyphMath SpMath

set_option maxHeartbeats 2000000 in
set_option maxRecDepth 100000 in
theorem spcut_any (s : ByteArray) (w : World) (hs : s.size ≤ 1048576) :
    Calls Try.prog 19 #[.string s, .string ⟨#[10]⟩] w fun e w' => ∃ f : Bool, e = .returned (.tuple #[.string (lineM s), .string (moreM s), .bool f]) ∧ ∃ n, w' = w.drewN n := by
  have HI := Lib.hid (fun W => Try.stringslite_Index_one s 10 W)
  rcases nl_cases s with ⟨h1, h2, -⟩ | ⟨i, h1, h2, hi, -⟩
  · have HL := Lib.hid (line_miss h1)
    unfold nlI at h2
    rw [h2] at HI
    rw [HL.out.1, HL.out.2]
    clear h1 h2 hs
    go_enter Try.func19, Try.ntmps19
    go_wp2_with (go_at_call 20; refine (HI.out _).mono ?_; rintro e w' ⟨rfl, rfl⟩)
    go_ret3
    exact ⟨_, rfl, 0, rfl⟩
  · have e1 : lineM s = s.extract 0 i := by unfold lineM; rw [h1]
    have e2 : moreM s = s.extract (i + 1) s.size := by unfold moreM; rw [h1]
    unfold nlI at h2
    rw [h2] at HI
    rw [e1, e2]
    have c1 : (0 : Int) ≤ (i : Int) := by omega
    have c2 : (i : Int) ≤ (s.size : Int) := by omega
    obtain ⟨m, hm⟩ : ∃ m : Nat, m = i + 1 := ⟨_, rfl⟩
    have hwr : IntKind.i64.wrap ((i : Int) + 1) = (m : Int) := by
      have e : (m : Int) = (i : Int) + 1 := by omega
      rw [e]; exact IntWalk.i64_in _ ⟨by omega, by omega⟩
    have c3 : (0 : Int) ≤ (m : Int) := by omega
    have c4 : (m : Int) ≤ (s.size : Int) := by omega
    rw [← hm]
    clear h1 h2 hm hs hi e1 e2
    go_enter Try.func19, Try.ntmps19
    go_wp2_with (go_at_call 20; refine (HI.out _).mono ?_; rintro e w' ⟨rfl, rfl⟩)
    go_quiet (fail)
    go_wp2_with fail
    go_ret3
    exact ⟨_, rfl, _, rfl⟩
theorem scut_any (s : ByteArray) (w : World) (hs : s.size ≤ 1048576) :
    Calls Try.prog 13 #[.string s, .string ⟨#[10]⟩] w fun e w' => ∃ f : Bool, e = .returned (.tuple #[.string (lineM s), .string (moreM s), .bool f]) ∧ Below w.heap.size w w' := by
  have HI := Lib.hid (spcut_any s w hs)
  clear hs
  go_enter Try.func13, Try.ntmps13
  go_wp2_with (go_at_call 19; refine HI.out.mono ?_; rintro e w' ⟨f, rfl, n, rfl⟩)
  go_ret3
  exact ⟨_, rfl, below_drewN (Below.refl _ _) _⟩
theorem size_pos (s : ByteArray) (h : 0 < s.size) : (s.toList == []) = false := by
  rw [Lib.toList_data]
  have h1 : s.data.toList.length = s.size := (Lib.size_eq s).symm
  cases e : s.data.toList with
  | nil => rw [e] at h1; simp at h1; omega
  | cons a l => rfl
theorem size_nil (s : ByteArray) (h : ¬ 0 < s.size) : s = ⟨#[]⟩ := data_ext (List.eq_nil_of_length_eq_zero (by rw [← Lib.size_eq]; omega))
theorem lines_any (s : ByteArray) (w : World) (hs : s.size ≤ 1048576) :
    Calls Try.prog 6 #[.string s] w fun e w' => e = .returned (.tuple #[.string (lineM s), .string (moreM s), .bool (decide (0 < s.size))]) ∧ Below w.heap.size w w' := by
  have HI := Lib.hid (scut_any s w hs)
  by_cases h0 : 0 < s.size
  · have h1 := size_pos s h0
    have h3 : ¬ s = ⟨#[]⟩ := fun e => by rw [e] at h0; exact absurd h0 (by decide)
    have HD := Lib.hid (show decide (0 < s.size) = true from decide_eq_true h0)
    rw [HD.out]
    clear h0 hs HD
    go_enter Try.func6, Try.ntmps6
    go_wp2_with (go_at_call 13; refine HI.out.mono ?_; rintro e w1 ⟨f, rfl, hb1⟩; have HB1 := Lib.hid hb1; clear hb1)
    go_ret3
    exact ⟨rfl, HB1.out⟩
  · obtain rfl := size_nil s h0
    clear h0 hs
    go_enter Try.func6, Try.ntmps6
    go_wp2_with (go_at_call 13; refine HI.out.mono ?_; rintro e w1 ⟨f, rfl, hb1⟩; have HB1 := Lib.hid hb1; clear hb1)
    go_ret3
    exact ⟨rfl, HB1.out⟩
set_option maxHeartbeats 1000000 in
theorem rlines_any (s : ByteArray) (w : World) (hs : s.size ≤ 1048576) :
    Calls Try.prog 7 #[.string s] w fun e w' => e = .returned (.tuple #[.string (lineM s), .string (moreM s), .bool (decide (0 < s.size))]) ∧ Below w.heap.size w w' := by
  obtain ⟨D, hD⟩ : ∃ D, decide (0 < s.size) = D := ⟨_, rfl⟩
  have HD := Lib.hid hD
  rw [hD]
  have HS := Lib.hid hs
  clear hD hs
  go_enter Try.func7, Try.ntmps7
  go_wp2_with fail
  go_loopw [5] (fun i wr => ∃ k : Nat, i = .int .i64 (k : Int) ∧ k ≤ s.size ∧ (∀ j (h : j < s.size), j < k → s[j]'h ≠ 10) ∧ Below w.heap.size w wr) (fun i _ => s.size - (intOf i).toNat)
  case atStart => exact ⟨0, rfl, Nat.zero_le _, fun j h hj => absurd hj (by omega), Below.refl _ _⟩
  case round =>
    obtain ⟨k, rfl, hk, hno, hb⟩ := hrel
    have HB := Lib.hid hb
    have HNO := Lib.hid hno
    clear hb hno
    have c0 : (0 : Int) ≤ (k : Int) := by omega
    by_cases hlt : k < s.size
    · have hltI : (k : Int) < (s.size : Int) := by omega
      have hk1 : (k : Int) + 1 ≤ 9223372036854775807 := by have := HS.out; omega
      have c2 : (k : Int) ≤ (s.size : Int) := by omega
      by_cases hc : s[k]'hlt = 10
      · have HN := Lib.hid (nl_first hlt hc HNO.out)
        have HD1 := Lib.hid (show D = true from by rw [← HD.out]; exact decide_eq_true (by omega))
        have hc1 : (((s[k]'hlt).toNat : Int) == 10) = true := by rw [hc]; rfl
        have hc2 : ((s[k]'hlt).toNat : Int) = 10 := by rw [hc]; rfl
        obtain ⟨m, hm⟩ : ∃ m : Nat, m = k + 1 := ⟨_, rfl⟩
        have hwr : IntKind.i64.wrap ((k : Int) + 1) = (m : Int) := by
          have e : (m : Int) = (k : Int) + 1 := by omega
          rw [e]; exact IntWalk.i64_in _ ⟨by omega, by omega⟩
        have c3 : (0 : Int) ≤ (m : Int) := by omega
        have c4 : (m : Int) ≤ (s.size : Int) := by omega
        have HM := Lib.hid hm
        clear hc hm
        go_wp2_with fail
        go_quiet (fail)
        all_goals
          go_wp2_with fail
          go_ret3
          have e1 : lineM s = s.extract 0 k := by unfold lineM; rw [HN.out]
          have e2 : moreM s = s.extract m s.size := by unfold moreM; rw [HN.out, HM.out]
          rw [e1, e2, HD1.out]
          exact ⟨rfl, below_drewN HB.out _⟩
      · have hc2 : ¬ ((s[k]'hlt).toNat : Int) = 10 := fun e => hc (by apply UInt8.toNat.inj; show _ = 10; omega)
        have hc1 : (((s[k]'hlt).toNat : Int) == 10) = false := by simpa using hc2
        have HC := Lib.hid hc
        clear hc
        go_wp2_with fail
        go_roundw
        case rel =>
          refine ⟨k + 1, by simp, hlt, fun j h hj => ?_, HB.out⟩
          rcases Nat.lt_or_ge j k with h1 | h1
          · exact HNO.out j h h1
          · obtain rfl : j = k := by omega
            exact HC.out
        case measure => simp [intOf]; omega
    · have hltI : ¬ (k : Int) < (s.size : Int) := by omega
      have HL := Lib.hid (line_miss (nl_none fun j h => HNO.out j h (by omega)))
      have HD2 := Lib.hid (show decide ((0 : Int) < (s.size : Int)) = D from by rw [← HD.out]; exact decide_eq_decide.2 (by omega))
      have hd1 : decide (0 < s.size) = D := HD.out
      clear hlt hk
      go_wp2_with fail
      go_ret3
      rw [HL.out.1, HL.out.2]
      first | exact ⟨rfl, HB.out⟩ | exact ⟨by rw [HD2.out], HB.out⟩ | exact ⟨by rw [HD.out], HB.out⟩
end Go.Proofs.Ytfepkhlifpbkfaa
