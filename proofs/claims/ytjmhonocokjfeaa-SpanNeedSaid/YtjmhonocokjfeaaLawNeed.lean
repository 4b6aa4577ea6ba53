/-
  Proved: the walk of the law SpanNeed: how many sectors a span needs, so it answers true and changes nothing that was there. Conditions: the number is an int.
-/
import Derived.Test.YtjmhonocokjfeaaSpanLaw
namespace Go.Proofs.Ytjmhonocokjfeaa
open Go Go.RowKit DiskMath NetMem SpanMath

set_option maxHeartbeats 1000000 in
theorem need_law (n : Int) (h2 : n ≤ 9223372036854775807) (w : World) :
    Calls Try.prog 3 #[.int .i64 n] w fun e w' => e = .returned (.bool true) ∧ Below w.heap.size w w' := by
  by_cases h : n < 0
  · have H1 := Lib.hid (And.intro (need_neg n w h) (refneed_neg n w h))
    clear h
    go_enter Try.func3, Try.ntmps3
    go_wp2_with fail
    refine H1.out.1.mono ?_
    rintro e w1 ⟨rfl, rfl⟩
    go_wp2_with fail
    refine H1.out.2.mono ?_
    rintro e w1 ⟨rfl, rfl⟩
    go_wp2_with fail
    refine (known_any _).mono ?_
    rintro e w1 ⟨rfl, hb⟩
    have HB := Lib.hid hb
    clear hb
    go_wp2_with fail
    go_ret
    exact ⟨rfl, HB.out⟩
  · obtain ⟨k, rfl⟩ := Int.eq_ofNat_of_zero_le (show 0 ≤ n by omega)
    have H1 := Lib.hid (And.intro (need_any k w (by omega)) (refneed_any k w (by omega)))
    clear h h2
    go_enter Try.func3, Try.ntmps3
    go_wp2_with fail
    refine H1.out.1.mono ?_
    rintro e w1 ⟨rfl, rfl⟩
    go_wp2_with fail
    refine H1.out.2.mono ?_
    rintro e w1 ⟨rfl, rfl⟩
    go_wp2_with fail
    refine (known_any _).mono ?_
    rintro e w1 ⟨rfl, hb⟩
    have HB := Lib.hid hb
    clear hb
    go_wp2_with fail
    go_ret
    exact ⟨rfl, HB.out⟩
end Go.Proofs.Ytjmhonocokjfeaa
