/-
  Proved: contracts of the statements' own digits, turned, Num. Conditions: texts under 2^62 bytes.
-/
import Derived.Test.YtlgbfhjbfolibaaDoorArRNum0
import Derived.Test.YtlgbfhjbfolibaaDoorArTrim
import Derived.Test.YtlgbfhjbfolibaaDoorArOne
import Derived.Deep.LoopGhost
import Derived.LoopTactic
namespace Go.Proofs.YtlgbfhjbfolibaaDoor
open Go Go.RowKit ArMath

theorem get_drop (l : B) (i : Nat) (h : i < (tx l).size) : l.drop i = ((tx l)[i]'h) :: l.drop (i + 1) := by
  have := get_list (tx l) i h
  rwa [tx_list] at this
theorem end_drop (l : B) (i : Nat) (h : ¬ i < (tx l).size) : l.drop i = [] := List.drop_eq_nil_of_le (by rw [tx_size] at h; omega)
set_option maxRecDepth 8000 in
theorem rdigits_any (l : B) (hl : l.length ≤ 4611686018427387904) (hd : l.all digC = true) (w : World) :
    Calls Tryd.prog 21 #[.string (tx l)] w fun e w' => e = .returned (.tuple #[.int .i64 (digsF l 0).1, .bool (digsF l 0).2]) ∧ w = w' := by
  have hs := tx_size l
  obtain ⟨s, hsl⟩ : ∃ s, tx l = s := ⟨_, rfl⟩
  have HGD := Lib.hid (fun i (h : i < s.size) => (show l.drop i = (s[i]'h) :: l.drop (i + 1) from by subst hsl; exact get_drop l i h))
  have HED := Lib.hid (fun i (h : ¬ i < s.size) => (show l.drop i = [] from by subst hsl; exact end_drop l i h))
  have HD := Lib.hid hd
  rw [hsl] at hs ⊢
  have hsz : s.size ≤ 4611686018427387904 := by omega
  obtain ⟨R, hR⟩ : ∃ R, digsF l 0 = R := ⟨_, rfl⟩
  have HR := Lib.hid (show digsF (l.drop 0) 0 = R from hR)
  rw [hR]
  clear hR hsl hd hl hs
  go_enter Tryd.func21, Tryd.ntmps21
  go_wp2_with fail
  go_loopg [4, 5] s.size (fun gf s4 s5 wx => wx = w ∧ ∃ (n : Int) (i : Nat), s4 = .int .i64 n ∧ s5 = .int .i64 (i : Int) ∧ i + gf = s.size ∧ Hid (digsF (l.drop i) n = R ∧ 0 ≤ n ∧ n ≤ 9223372036854775807))
  case atStart => exact ⟨rfl, 0, 0, rfl, rfl, by omega, Lib.hid ⟨HR.out, by decide, by decide⟩⟩
  case round =>
    obtain ⟨rfl, n, i, rfl, rfl, hig, hrel⟩ := hrel
    by_cases hlt : i < s.size
    · obtain ⟨g', rfl⟩ : ∃ g', gk = g' + 1 := ⟨gk - 1, by omega⟩
      obtain ⟨hr, hn0, hn1⟩ := hrel.out
      rw [HGD.out i hlt] at hr
      have hdig : digC (s[i]'hlt) = true := by
        have := HD.out
        rw [← List.take_append_drop i l, HGD.out i hlt, List.all_append, List.all_cons, Bool.and_eq_true, Bool.and_eq_true] at this
        exact this.2.1
      obtain ⟨hc0, hc1⟩ := dig_is hdig
      obtain ⟨c, hc⟩ : ∃ c : Nat, (s[i]'hlt).toNat = c := ⟨_, rfl⟩
      rw [hc] at hc0 hc1
      simp only [digsF, hc] at hr
      have hltI : (i : Int) < (s.size : Int) := by omega
      have hi0 : (0 : Int) ≤ (i : Int) := by omega
      have hi1 : (i : Int) + 1 ≤ 9223372036854775807 := by omega
      have hc0I : (48 : Int) ≤ (c : Int) := by omega
      have hc1I : (c : Int) ≤ 57 := by omega
      have ht : (9223372036854775807 - ((c : Int) - 48)).tdiv 10 = (9223372036854775807 - ((c : Int) - 48)) / 10 := Int.tdiv_eq_ediv_of_nonneg (by omega)
      rw [ht] at hr
      clear hdig hrel HR ht
      by_cases hb : (9223372036854775807 - ((c : Int) - 48)) / 10 < n
      · rw [if_pos hb] at hr
        have HR := Lib.hid hr
        clear hr hig hc0 hc1
        go_wp2_with fail
        go_ret2
        exact ⟨ret_two (by rw [← HR.out]) (by rw [← HR.out]), rfl⟩
      · rw [if_neg hb] at hr
        have HR := Lib.hid hr
        have HQ := Lib.hid (show 0 ≤ 10 * n + ((c : Int) - 48) ∧ 10 * n + ((c : Int) - 48) ≤ 9223372036854775807 by omega)
        have e1 : RowKit.wrap64 (10 * n) = 10 * n := wr_in ⟨by omega, by omega⟩
        have e2 : RowKit.wrap64 (10 * n + ((c : Int) - 48)) = 10 * n + ((c : Int) - 48) := wr_in ⟨by omega, by omega⟩
        have HI := Lib.hid hig
        clear hr hig hc0 hc1
        go_wp2_with fail
        go_roundg g'
        case rel => exact ⟨rfl, _, i + 1, rfl, by simp, by have := HI.out; omega, Lib.hid ⟨HR.out, HQ.out.1, HQ.out.2⟩⟩
        case measure => omega
    · obtain ⟨hr, -, -⟩ := hrel.out
      rw [HED.out i hlt] at hr
      have hltI : ¬ (i : Int) < (s.size : Int) := by omega
      have HR2 := Lib.hid hr
      clear hr hig
      go_wp2_with fail
      go_ret2
      exact ⟨ret_two (by rw [← HR2.out]; rfl) (by rw [← HR2.out]; rfl), rfl⟩
set_option maxRecDepth 8000 in
theorem rturned_any (l : B) (hl : l.length ≤ 4611686018427387904) (hd : l.all digC = true) (w : World) :
    Calls Tryd.prog 20 #[.string (tx l)] w fun e w' => e = .returned (.tuple #[.int .i64 (turnF l 0).1, .bool (turnF l 0).2]) ∧ w = w' := by
  have hs := tx_size l
  obtain ⟨s, hsl⟩ : ∃ s, tx l = s := ⟨_, rfl⟩
  have HGD := Lib.hid (fun i (h : i < s.size) => (show l.drop i = (s[i]'h) :: l.drop (i + 1) from by subst hsl; exact get_drop l i h))
  have HED := Lib.hid (fun i (h : ¬ i < s.size) => (show l.drop i = [] from by subst hsl; exact end_drop l i h))
  have HD := Lib.hid hd
  rw [hsl] at hs ⊢
  have hsz : s.size ≤ 4611686018427387904 := by omega
  obtain ⟨R, hR⟩ : ∃ R, turnF l 0 = R := ⟨_, rfl⟩
  have HR := Lib.hid (show turnF (l.drop 0) 0 = R from hR)
  rw [hR]
  clear hR hsl hd hl hs
  go_enter Tryd.func20, Tryd.ntmps20
  go_wp2_with fail
  go_loopg [4, 5] s.size (fun gf s4 s5 wx => wx = w ∧ ∃ (n : Int) (i : Nat), s4 = .int .i64 n ∧ s5 = .int .i64 (i : Int) ∧ i + gf = s.size ∧ Hid (turnF (l.drop i) n = R ∧ -9223372036854775808 ≤ n ∧ n ≤ 0))
  case atStart => exact ⟨rfl, 0, 0, rfl, rfl, by omega, Lib.hid ⟨HR.out, by decide, by decide⟩⟩
  case round =>
    obtain ⟨rfl, n, i, rfl, rfl, hig, hrel⟩ := hrel
    by_cases hlt : i < s.size
    · obtain ⟨g', rfl⟩ : ∃ g', gk = g' + 1 := ⟨gk - 1, by omega⟩
      obtain ⟨hr, hn0, hn1⟩ := hrel.out
      rw [HGD.out i hlt] at hr
      have hdig : digC (s[i]'hlt) = true := by
        have := HD.out
        rw [← List.take_append_drop i l, HGD.out i hlt, List.all_append, List.all_cons, Bool.and_eq_true, Bool.and_eq_true] at this
        exact this.2.1
      obtain ⟨hc0, hc1⟩ := dig_is hdig
      obtain ⟨c, hc⟩ : ∃ c : Nat, (s[i]'hlt).toNat = c := ⟨_, rfl⟩
      rw [hc] at hc0 hc1
      simp only [turnF, hc] at hr
      have hltI : (i : Int) < (s.size : Int) := by omega
      have hi0 : (0 : Int) ≤ (i : Int) := by omega
      have hi1 : (i : Int) + 1 ≤ 9223372036854775807 := by omega
      have hc0I : (48 : Int) ≤ (c : Int) := by omega
      have hc1I : (c : Int) ≤ 57 := by omega
      have hc10 : c = 48 ∨ c = 49 ∨ c = 50 ∨ c = 51 ∨ c = 52 ∨ c = 53 ∨ c = 54 ∨ c = 55 ∨ c = 56 ∨ c = 57 := by omega
      clear hdig hrel HR hc0I hc1I hc0 hc1
      rcases hc10 with rfl | rfl | rfl | rfl | rfl | rfl | rfl | rfl | rfl | rfl
      · rw [show ((48 : Nat) : Int) - 48 = 0 from rfl, show (-9223372036854775808 + 0 : Int).tdiv 10 = -922337203685477580 by decide +kernel] at hr
        by_cases hb : n < -922337203685477580
        · rw [if_pos hb] at hr
          have HR := Lib.hid hr
          clear hr hig hn0 hn1
          go_wp2_with fail
          go_ret2
          exact ⟨ret_two (by rw [← HR.out]) (by rw [← HR.out]), rfl⟩
        · rw [if_neg hb] at hr
          rw [Int.sub_zero] at hr
          have HR := Lib.hid hr
          have HQ := Lib.hid (show -9223372036854775808 ≤ 10 * n ∧ 10 * n ≤ 0 by omega)
          have e1 : RowKit.wrap64 (10 * n) = 10 * n := wr_in ⟨by omega, by omega⟩
          have HI := Lib.hid hig
          clear hr hig hn0 hn1
          go_wp2_with fail
          go_roundg g'
          case rel => exact ⟨rfl, _, i + 1, rfl, by simp, by have := HI.out; omega, Lib.hid ⟨HR.out, HQ.out.1, HQ.out.2⟩⟩
          case measure => omega
      · rw [show ((49 : Nat) : Int) - 48 = 1 from rfl, show (-9223372036854775808 + 1 : Int).tdiv 10 = -922337203685477580 by decide +kernel] at hr
        by_cases hb : n < -922337203685477580
        · rw [if_pos hb] at hr
          have HR := Lib.hid hr
          clear hr hig hn0 hn1
          go_wp2_with fail
          go_ret2
          exact ⟨ret_two (by rw [← HR.out]) (by rw [← HR.out]), rfl⟩
        · rw [if_neg hb] at hr
          have HR := Lib.hid hr
          have HQ := Lib.hid (show -9223372036854775808 ≤ 10 * n - 1 ∧ 10 * n - 1 ≤ 0 by omega)
          have e1 : RowKit.wrap64 (10 * n) = 10 * n := wr_in ⟨by omega, by omega⟩
          have e2 : RowKit.wrap64 (10 * n - 1) = 10 * n - 1 := wr_in ⟨by omega, by omega⟩
          have HI := Lib.hid hig
          clear hr hig hn0 hn1
          go_wp2_with fail
          go_roundg g'
          case rel => exact ⟨rfl, _, i + 1, rfl, by simp, by have := HI.out; omega, Lib.hid ⟨HR.out, HQ.out.1, HQ.out.2⟩⟩
          case measure => omega
      · rw [show ((50 : Nat) : Int) - 48 = 2 from rfl, show (-9223372036854775808 + 2 : Int).tdiv 10 = -922337203685477580 by decide +kernel] at hr
        by_cases hb : n < -922337203685477580
        · rw [if_pos hb] at hr
          have HR := Lib.hid hr
          clear hr hig hn0 hn1
          go_wp2_with fail
          go_ret2
          exact ⟨ret_two (by rw [← HR.out]) (by rw [← HR.out]), rfl⟩
        · rw [if_neg hb] at hr
          have HR := Lib.hid hr
          have HQ := Lib.hid (show -9223372036854775808 ≤ 10 * n - 2 ∧ 10 * n - 2 ≤ 0 by omega)
          have e1 : RowKit.wrap64 (10 * n) = 10 * n := wr_in ⟨by omega, by omega⟩
          have e2 : RowKit.wrap64 (10 * n - 2) = 10 * n - 2 := wr_in ⟨by omega, by omega⟩
          have HI := Lib.hid hig
          clear hr hig hn0 hn1
          go_wp2_with fail
          go_roundg g'
          case rel => exact ⟨rfl, _, i + 1, rfl, by simp, by have := HI.out; omega, Lib.hid ⟨HR.out, HQ.out.1, HQ.out.2⟩⟩
          case measure => omega
      · rw [show ((51 : Nat) : Int) - 48 = 3 from rfl, show (-9223372036854775808 + 3 : Int).tdiv 10 = -922337203685477580 by decide +kernel] at hr
        by_cases hb : n < -922337203685477580
        · rw [if_pos hb] at hr
          have HR := Lib.hid hr
          clear hr hig hn0 hn1
          go_wp2_with fail
          go_ret2
          exact ⟨ret_two (by rw [← HR.out]) (by rw [← HR.out]), rfl⟩
        · rw [if_neg hb] at hr
          have HR := Lib.hid hr
          have HQ := Lib.hid (show -9223372036854775808 ≤ 10 * n - 3 ∧ 10 * n - 3 ≤ 0 by omega)
          have e1 : RowKit.wrap64 (10 * n) = 10 * n := wr_in ⟨by omega, by omega⟩
          have e2 : RowKit.wrap64 (10 * n - 3) = 10 * n - 3 := wr_in ⟨by omega, by omega⟩
          have HI := Lib.hid hig
          clear hr hig hn0 hn1
          go_wp2_with fail
          go_roundg g'
          case rel => exact ⟨rfl, _, i + 1, rfl, by simp, by have := HI.out; omega, Lib.hid ⟨HR.out, HQ.out.1, HQ.out.2⟩⟩
          case measure => omega
      · rw [show ((52 : Nat) : Int) - 48 = 4 from rfl, show (-9223372036854775808 + 4 : Int).tdiv 10 = -922337203685477580 by decide +kernel] at hr
        by_cases hb : n < -922337203685477580
        · rw [if_pos hb] at hr
          have HR := Lib.hid hr
          clear hr hig hn0 hn1
          go_wp2_with fail
          go_ret2
          exact ⟨ret_two (by rw [← HR.out]) (by rw [← HR.out]), rfl⟩
        · rw [if_neg hb] at hr
          have HR := Lib.hid hr
          have HQ := Lib.hid (show -9223372036854775808 ≤ 10 * n - 4 ∧ 10 * n - 4 ≤ 0 by omega)
          have e1 : RowKit.wrap64 (10 * n) = 10 * n := wr_in ⟨by omega, by omega⟩
          have e2 : RowKit.wrap64 (10 * n - 4) = 10 * n - 4 := wr_in ⟨by omega, by omega⟩
          have HI := Lib.hid hig
          clear hr hig hn0 hn1
          go_wp2_with fail
          go_roundg g'
          case rel => exact ⟨rfl, _, i + 1, rfl, by simp, by have := HI.out; omega, Lib.hid ⟨HR.out, HQ.out.1, HQ.out.2⟩⟩
          case measure => omega
      · rw [show ((53 : Nat) : Int) - 48 = 5 from rfl, show (-9223372036854775808 + 5 : Int).tdiv 10 = -922337203685477580 by decide +kernel] at hr
        by_cases hb : n < -922337203685477580
        · rw [if_pos hb] at hr
          have HR := Lib.hid hr
          clear hr hig hn0 hn1
          go_wp2_with fail
          go_ret2
          exact ⟨ret_two (by rw [← HR.out]) (by rw [← HR.out]), rfl⟩
        · rw [if_neg hb] at hr
          have HR := Lib.hid hr
          have HQ := Lib.hid (show -9223372036854775808 ≤ 10 * n - 5 ∧ 10 * n - 5 ≤ 0 by omega)
          have e1 : RowKit.wrap64 (10 * n) = 10 * n := wr_in ⟨by omega, by omega⟩
          have e2 : RowKit.wrap64 (10 * n - 5) = 10 * n - 5 := wr_in ⟨by omega, by omega⟩
          have HI := Lib.hid hig
          clear hr hig hn0 hn1
          go_wp2_with fail
          go_roundg g'
          case rel => exact ⟨rfl, _, i + 1, rfl, by simp, by have := HI.out; omega, Lib.hid ⟨HR.out, HQ.out.1, HQ.out.2⟩⟩
          case measure => omega
      · rw [show ((54 : Nat) : Int) - 48 = 6 from rfl, show (-9223372036854775808 + 6 : Int).tdiv 10 = -922337203685477580 by decide +kernel] at hr
        by_cases hb : n < -922337203685477580
        · rw [if_pos hb] at hr
          have HR := Lib.hid hr
          clear hr hig hn0 hn1
          go_wp2_with fail
          go_ret2
          exact ⟨ret_two (by rw [← HR.out]) (by rw [← HR.out]), rfl⟩
        · rw [if_neg hb] at hr
          have HR := Lib.hid hr
          have HQ := Lib.hid (show -9223372036854775808 ≤ 10 * n - 6 ∧ 10 * n - 6 ≤ 0 by omega)
          have e1 : RowKit.wrap64 (10 * n) = 10 * n := wr_in ⟨by omega, by omega⟩
          have e2 : RowKit.wrap64 (10 * n - 6) = 10 * n - 6 := wr_in ⟨by omega, by omega⟩
          have HI := Lib.hid hig
          clear hr hig hn0 hn1
          go_wp2_with fail
          go_roundg g'
          case rel => exact ⟨rfl, _, i + 1, rfl, by simp, by have := HI.out; omega, Lib.hid ⟨HR.out, HQ.out.1, HQ.out.2⟩⟩
          case measure => omega
      · rw [show ((55 : Nat) : Int) - 48 = 7 from rfl, show (-9223372036854775808 + 7 : Int).tdiv 10 = -922337203685477580 by decide +kernel] at hr
        by_cases hb : n < -922337203685477580
        · rw [if_pos hb] at hr
          have HR := Lib.hid hr
          clear hr hig hn0 hn1
          go_wp2_with fail
          go_ret2
          exact ⟨ret_two (by rw [← HR.out]) (by rw [← HR.out]), rfl⟩
        · rw [if_neg hb] at hr
          have HR := Lib.hid hr
          have HQ := Lib.hid (show -9223372036854775808 ≤ 10 * n - 7 ∧ 10 * n - 7 ≤ 0 by omega)
          have e1 : RowKit.wrap64 (10 * n) = 10 * n := wr_in ⟨by omega, by omega⟩
          have e2 : RowKit.wrap64 (10 * n - 7) = 10 * n - 7 := wr_in ⟨by omega, by omega⟩
          have HI := Lib.hid hig
          clear hr hig hn0 hn1
          go_wp2_with fail
          go_roundg g'
          case rel => exact ⟨rfl, _, i + 1, rfl, by simp, by have := HI.out; omega, Lib.hid ⟨HR.out, HQ.out.1, HQ.out.2⟩⟩
          case measure => omega
      · rw [show ((56 : Nat) : Int) - 48 = 8 from rfl, show (-9223372036854775808 + 8 : Int).tdiv 10 = -922337203685477580 by decide +kernel] at hr
        by_cases hb : n < -922337203685477580
        · rw [if_pos hb] at hr
          have HR := Lib.hid hr
          clear hr hig hn0 hn1
          go_wp2_with fail
          go_ret2
          exact ⟨ret_two (by rw [← HR.out]) (by rw [← HR.out]), rfl⟩
        · rw [if_neg hb] at hr
          have HR := Lib.hid hr
          have HQ := Lib.hid (show -9223372036854775808 ≤ 10 * n - 8 ∧ 10 * n - 8 ≤ 0 by omega)
          have e1 : RowKit.wrap64 (10 * n) = 10 * n := wr_in ⟨by omega, by omega⟩
          have e2 : RowKit.wrap64 (10 * n - 8) = 10 * n - 8 := wr_in ⟨by omega, by omega⟩
          have HI := Lib.hid hig
          clear hr hig hn0 hn1
          go_wp2_with fail
          go_roundg g'
          case rel => exact ⟨rfl, _, i + 1, rfl, by simp, by have := HI.out; omega, Lib.hid ⟨HR.out, HQ.out.1, HQ.out.2⟩⟩
          case measure => omega
      · rw [show ((57 : Nat) : Int) - 48 = 9 from rfl, show (-9223372036854775808 + 9 : Int).tdiv 10 = -922337203685477579 by decide +kernel] at hr
        by_cases hb : n < -922337203685477579
        · rw [if_pos hb] at hr
          have HR := Lib.hid hr
          clear hr hig hn0 hn1
          go_wp2_with fail
          go_ret2
          exact ⟨ret_two (by rw [← HR.out]) (by rw [← HR.out]), rfl⟩
        · rw [if_neg hb] at hr
          have HR := Lib.hid hr
          have HQ := Lib.hid (show -9223372036854775808 ≤ 10 * n - 9 ∧ 10 * n - 9 ≤ 0 by omega)
          have e1 : RowKit.wrap64 (10 * n) = 10 * n := wr_in ⟨by omega, by omega⟩
          have e2 : RowKit.wrap64 (10 * n - 9) = 10 * n - 9 := wr_in ⟨by omega, by omega⟩
          have HI := Lib.hid hig
          clear hr hig hn0 hn1
          go_wp2_with fail
          go_roundg g'
          case rel => exact ⟨rfl, _, i + 1, rfl, by simp, by have := HI.out; omega, Lib.hid ⟨HR.out, HQ.out.1, HQ.out.2⟩⟩
          case measure => omega
    · obtain ⟨hr, -, -⟩ := hrel.out
      rw [HED.out i hlt] at hr
      have hltI : ¬ (i : Int) < (s.size : Int) := by omega
      have HR2 := Lib.hid hr
      clear hr hig
      go_wp2_with fail
      go_ret2
      exact ⟨ret_two (by rw [← HR2.out]; rfl) (by rw [← HR2.out]; rfl), rfl⟩
end Go.Proofs.YtlgbfhjbfolibaaDoor
