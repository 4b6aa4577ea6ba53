/-
  Proved: the walk of the law TreeReserved: it answers true and changes nothing that was there. Conditions: the program's shapes lie as they should.
-/
import Derived.Test.YtloaalapkmbgeaaDoorTreeKnown
namespace Go.Proofs.YtloaalapkmbgeaaDoor
open Go Go.RowKit GlyphMath LexMath TreeMath

set_option maxHeartbeats 1000000 in
theorem rreserved_any (l : List UInt8) (w : World) :
    Calls Tryd.prog 12 #[.string (T l)] w fun e w' => e = .returned (.bool (reservedT l)) ∧ w = w' := by
  obtain ⟨o, ho⟩ : ∃ o, T l = o := ⟨_, rfl⟩
  have hl : o.toList = l := by rw [← ho, Lib.toList_data]
  rw [ho, ← hl]
  clear ho hl
  obtain ⟨R, hR⟩ : ∃ R, reservedT o.toList = R := ⟨_, rfl⟩
  have HR := Lib.hid hR
  rw [hR]
  clear hR
  go_enter Tryd.func12, Tryd.ntmps12
  go_wp2_with fail
  all_goals
    go_ret
    refine ⟨ret_bool ?_, rfl⟩
    rw [← HR.out]
    first
      | (simp only [reservedT, reservedL, List.contains_cons, List.contains_nil, Bool.or_false, Bool.true_or, Bool.false_or, *]; done)
      | (simp_all; done)

theorem reserved_law (s : ByteArray) (w : World) (hS : Shapes w) :
    Calls Tryd.prog 4 #[.string s] w fun e w' => e = .returned (.bool true) ∧ Below w.heap.size w w' := by
  have HA := Lib.hid (show ∀ W, Calls Tryd.prog 11 #[.string s] W fun e w' => e = .returned (.bool (reservedT s.data.toList)) ∧ W = w' from fun W => reserved_any s.data.toList W)
  have HB := Lib.hid (show ∀ W, Calls Tryd.prog 12 #[.string s] W fun e w' => e = .returned (.bool (reservedT s.data.toList)) ∧ W = w' from fun W => rreserved_any s.data.toList W)
  have HK := Lib.hid (known_any w hS)
  generalize reservedT s.data.toList = R at HA HB
  clear hS
  cases R
  all_goals
    go_enter Tryd.func4, Tryd.ntmps4
    go_wp2_with (first
      | (go_at_call 11; refine (HA.out _).mono ?_; rintro e w1 ⟨rfl, rfl⟩)
      | (go_at_call 12; refine (HB.out _).mono ?_; rintro e w1 ⟨rfl, rfl⟩)
      | (go_at_call 10; refine HK.out.mono ?_; rintro e w1 ⟨rfl, hb⟩; have HB2 := Lib.hid hb; clear hb))
    go_ret
    exact ⟨rfl, HB2.out⟩
end Go.Proofs.YtloaalapkmbgeaaDoor
