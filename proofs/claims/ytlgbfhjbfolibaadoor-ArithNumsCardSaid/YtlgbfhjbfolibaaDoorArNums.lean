/-
  Proved: the walk of the law ArithNums: it answers true and changes nothing that was there. Conditions: the library's two sentinel errors read as laid.
-/
import Derived.Test.YtlgbfhjbfolibaaDoorArRNum2
import Derived.Test.YtlgbfhjbfolibaaDoorArItoa
import Derived.Test.YtlgbfhjbfolibaaDoorArKnown
namespace Go.Proofs.YtlgbfhjbfolibaaDoor
open Go Go.Shelf Go.RowKit ArMath

set_option maxRecDepth 8000 in
theorem nums_long (s : ByteArray) (n : Int) (w : World) (h : 100 < s.size) :
    Calls Tryd.prog 4 #[.string s, .int .i64 n] w fun e w' => e = .returned (.bool true) ∧ Below w.heap.size w w' := by
  have HB := Lib.hid (Below.refl w.heap.size w)
  have h1I : (100 : Int) < (s.size : Int) := by omega
  clear h
  go_enter Tryd.func4, Tryd.ntmps4
  go_wp2_with fail
  go_ret
  exact ⟨rfl, HB.out⟩
set_option maxRecDepth 8000 in
theorem nums_short (l : B) (n : Int) (w : World) (hl : l.length ≤ 100) (hn : I64 n) (hg : GlobA w) (h7 : 7 ≤ w.heap.size) :
    Calls Tryd.prog 4 #[.string (tx l), .int .i64 n] w fun e w' => e = .returned (.bool true) ∧ Below w.heap.size w w' := by
  have HN1 := Lib.hid (num_any l (by omega) w hg)
  have HN2 := Lib.hid (fun W => rnum_any l (by omega) W)
  have HIT := Lib.hid (fun W => itoa_tx n hn W)
  have HN3 := Lib.hid (fun (W : World) (hb : Below w.heap.size w W) => num_any (Lib.itoa n) (itoa_len n hn) W (hg.below hb))
  rw [itoa_num n hn] at HN3
  have HKN := Lib.hid (fun (W : World) (hb : Below w.heap.size w W) => known_any W (hg.below hb) (Nat.le_trans h7 hb.size))
  have hsz := tx_size l
  have h1I : ¬ (100 : Int) < ((tx l).size : Int) := by omega
  obtain ⟨r, hr⟩ : ∃ r, numM l = r := ⟨_, rfl⟩
  rw [hr] at HN1 HN2
  obtain ⟨T, hT⟩ : ∃ T, tx (Lib.itoa n) = T := ⟨_, rfl⟩
  rw [hT] at HN3
  simp only [hT] at HIT
  generalize tx l = s at *
  clear hr hT hsz hl hn hg h7
  obtain ⟨r1, r2⟩ := r
  go_enter Tryd.func4, Tryd.ntmps4
  go_wp2_with (first
    | (go_at_call 11; (with_reducible refine HN1.out.mono ?_); rintro e w1 ⟨rfl, hb1⟩; have HB1 := Lib.hid hb1; clear hb1)
    | (go_at_call 12; (with_reducible refine (HN2.out _).mono ?_); rintro e w2 ⟨rfl, rfl⟩)
    | (go_at_call 13; (with_reducible refine (HIT.out _).mono ?_); rintro e w3 ⟨rfl, hb3⟩; have HB3 := Lib.hid (HB1.out.trans (hb3.mono HB1.out.size)); clear hb3)
    | (go_at_call 11; (with_reducible refine (HN3.out _ HB3.out).mono ?_); rintro e w4 ⟨rfl, hb4⟩; have HB4 := Lib.hid (HB3.out.trans (hb4.mono HB3.out.size)); clear hb4)
    | (go_at_call 10; (with_reducible refine (HKN.out _ HB4.out).mono ?_); rintro e w5 ⟨rfl, hb5⟩; have HB5 := Lib.hid (HB4.out.trans (hb5.mono HB4.out.size)); clear hb5))
  go_ret
  exact ⟨rfl, HB5.out⟩
theorem nums_law (s : ByteArray) (n : Int) (w : World) (hn : I64 n) (hg : GlobA w) (h7 : 7 ≤ w.heap.size) :
    Calls Tryd.prog 4 #[.string s, .int .i64 n] w fun e w' => e = .returned (.bool true) ∧ Below w.heap.size w w' := by
  by_cases h : 100 < s.size
  · exact nums_long s n w h
  · have := nums_short s.data.toList n w (by rw [← Lib.size_eq]; omega) hn hg h7
    rwa [tx_of] at this
end Go.Proofs.YtlgbfhjbfolibaaDoor
