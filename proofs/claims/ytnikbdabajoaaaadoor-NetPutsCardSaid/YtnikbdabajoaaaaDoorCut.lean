/-
  Proved: the walk of the law NetCut: a text's bytes, cut short, are no text, and nothing is taken; so it answers true and changes nothing that was there. Conditions: the text is of at most 2^47 bytes less 32; the library's table and its two sentinel errors read as laid.
-/
import Derived.Test.YtnikbdabajoaaaaDoorRef
import Derived.Test.YtnikbdabajoaaaaDoorRow
namespace Go.Proofs.YtnikbdabajoaaaaDoor
open Go Go.Shelf Go.RowKit NetMath NetMem

theorem reftext_any2 (s : ByteArray) (l : List UInt8) (hl : textB s.data.toList = l) (n : Nat) (hn : l.length = n) (hs : s.size ≤ 140737488355296) (w : World) :
    Calls Tryd.prog 14 #[.string s] w fun e w' => ∃ p c, e = .returned (.slice p n c) ∧ Row w' (.slice p n c) l ∧ Below w.heap.size w w' := by
  subst hn
  subst hl
  exact (reftext_any s hs w).mono fun e w' ⟨v, he, ho, hb⟩ => by
    obtain ⟨p, c, hv, -⟩ := id ho.row
    subst hv
    exact ⟨p, c, he, ho.row, hb⟩

set_option maxHeartbeats 2000000 in
set_option maxRecDepth 100000 in
theorem cut_out (s : ByteArray) (hs : s.size ≤ 140737488355296) (z : Int) (w : World) (h : 200 < s.size ∨ z < 0 ∨ ((textB s.data.toList).length : Int) ≤ z) :
    Calls Tryd.prog 7 #[.string s, .int .i64 z] w fun e w' => e = .returned (.bool true) ∧ Below w.heap.size w w' := by
  obtain ⟨n, hn⟩ : ∃ n, (textB s.data.toList).length = n := ⟨_, rfl⟩
  have HT := Lib.hid (reftext_any2 s _ rfl n hn hs w)
  rw [hn] at h
  clear hn
  rcases Classical.em (200 < s.size) with h1 | h1
  · clear h
    go_enter Tryd.func7, Tryd.ntmps7
    go_wp2_with fail
    refine HT.out.mono ?_
    rintro e w1 ⟨p, c, rfl, -, hb⟩
    have HB := Lib.hid hb
    clear hb
    go_wp2_with fail
    all_goals
      go_ret
      exact ⟨rfl, HB.out⟩
  · rcases Classical.em (z < 0) with h2 | h2
    · clear h
      go_enter Tryd.func7, Tryd.ntmps7
      go_wp2_with fail
      refine HT.out.mono ?_
      rintro e w1 ⟨p, c, rfl, -, hb⟩
      have HB := Lib.hid hb
      clear hb
      go_wp2_with fail
      all_goals
        go_ret
        exact ⟨rfl, HB.out⟩
    · have h3 : (n : Int) ≤ z := by omega
      clear h
      go_enter Tryd.func7, Tryd.ntmps7
      go_wp2_with fail
      refine HT.out.mono ?_
      rintro e w1 ⟨p, c, rfl, -, hb⟩
      have HB := Lib.hid hb
      clear hb
      go_wp2_with fail
      all_goals
        go_ret
        exact ⟨rfl, HB.out⟩

set_option maxHeartbeats 2000000 in
set_option maxRecDepth 100000 in
theorem cut_in (s : ByteArray) (hs : s.size ≤ 200) (k : Nat) (hk : k < (textB s.data.toList).length) (w : World) (hg : Glob w) :
    Calls Tryd.prog 7 #[.string s, .int .i64 (k : Int)] w fun e w' => e = .returned (.bool true) ∧ Below w.heap.size w w' := by
  have hsl := size_len s
  have hcuts := text_cuts s.data.toList (by omega) k hk
  obtain ⟨n, hn⟩ : ∃ n, (textB s.data.toList).length = n := ⟨_, rfl⟩
  have HT := Lib.hid (reftext_any2 s _ rfl n hn (by omega) w)
  rw [hn] at hk
  have hlen : ((textB s.data.toList).take k).length = k := by rw [List.length_take]; omega
  have hkb : k ≤ 140737488355328 := by have := textB_len s.data.toList (by omega); omega
  have HC := Lib.hid hcuts
  have HLK := Lib.hid hlen
  have HG := Lib.hid hg
  have HN := Lib.hid hn
  have h1 : ¬ (200 < s.size) := by omega
  have h2 : ¬ ((k : Int) < 0) := by omega
  have h3 : ¬ ((n : Int) ≤ (k : Int)) := by omega
  clear hsl hcuts hlen hg hn
  go_enter Tryd.func7, Tryd.ntmps7
  go_wp2_with fail
  refine HT.out.mono ?_
  rintro e w1 ⟨p, c, rfl, hrow, hb⟩
  have hle := (Row.nums hrow).2
  have hnc : n ≤ c ∧ c ≤ 9223372036854775807 := by have h4 := hle.2.1; unfold maxLen at h4; have := HN.out; omega
  obtain ⟨hnc, hcm⟩ := hnc
  have HR := Lib.hid (Row.take hrow k (by have := HN.out; omega))
  have HB := Lib.hid hb
  clear hle hrow hb
  go_wp2_with fail
  refine (new_any _ ((textB s.data.toList).take k) (by have := HLK.out; omega) w1 HR.out).mono ?_
  rintro e w2 ⟨r, rfl, hr0, hr1, hrd, hb2⟩
  have hr : w.heap.size ≤ r := Nat.le_trans HB.out.size hr0
  have HB2 := Lib.hid (HB.out.trans (hb2.mono HB.out.size))
  have HRD := Lib.hid hrd
  clear hr0 hr1 hrd hb2
  go_wp2_with fail
  refine (rtext_any r _ (by have := HLK.out; omega) w2 HRD.out (HG.out.below HB2.out)).mono ?_
  rintro e w3 ⟨rfl, hrd3, hk3⟩
  rw [HC.out.1, HC.out.2.1]
  rw [HC.out.2.2] at hrd3
  have HB3 := Lib.hid (HB2.out.trans (hk3.below HB2.out.size hr))
  have HRD3 := Lib.hid hrd3
  clear hrd3 hk3
  go_wp2_with fail
  refine (left_any r _ w3 HRD3.out).mono ?_
  rintro e w4 ⟨rfl, rfl⟩
  rw [HLK.out]
  go_wp2_with fail
  refine (known_any w3 (HG.out.below HB3.out)).mono ?_
  rintro e w5 ⟨rfl, hb5⟩
  have HB5 := Lib.hid (HB3.out.trans (hb5.mono HB3.out.size))
  clear hb5
  go_wp2_with fail
  go_ret
  exact ⟨rfl, HB5.out⟩

/-- THE LAW's WALK. -/
theorem cut_law (s : ByteArray) (hs : s.size ≤ 140737488355296) (z : Int) (w : World) (hg : Glob w) :
    Calls Tryd.prog 7 #[.string s, .int .i64 z] w fun e w' => e = .returned (.bool true) ∧ Below w.heap.size w w' := by
  by_cases h : 200 < s.size ∨ z < 0 ∨ ((textB s.data.toList).length : Int) ≤ z
  · exact cut_out s hs z w h
  · obtain ⟨k, rfl⟩ : ∃ k : Nat, z = (k : Int) := ⟨z.toNat, by omega⟩
    exact cut_in s (by omega) k (by omega) w hg
end Go.Proofs.YtnikbdabajoaaaaDoor
