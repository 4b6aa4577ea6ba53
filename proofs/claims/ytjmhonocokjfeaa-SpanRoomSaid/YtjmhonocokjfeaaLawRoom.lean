/-
  Proved: the walk of the law SpanRoom: with too little room Put refuses and writes nothing, Cleared a span is there no more; so it answers true and changes nothing that was there. Conditions: the bytes can be read.
-/
import Derived.Test.YtjmhonocokjfeaaSpanLaw
namespace Go.Proofs.Ytjmhonocokjfeaa
open Go Go.RowKit DiskMath NetMem SpanMath

/-- A new disk's sectors. -/
theorem new_la (n k : Nat) (h : k < n) : la (Dk.new n) k = zeroB := by simp [la, Dk.new, h, zeroB]
theorem new_len (n : Nat) : (Dk.new n).s.length = n := by simp [Dk.new]

theorem room_model (l : List UInt8) (room : Int) (hl : l.length ≤ 100) :
    (room < (need l.length : Int) ∧ spanPut (Dk.new 30) 3 room 9 l = (4, Dk.new 30) ∧ spanGet (Dk.new 30) 3 20 = none ∧ (Dk.new 30).n = 0) ∨
    ((need l.length : Int) ≤ room ∧ ∃ d1 d2, spanPut (Dk.new 30) 3 room 9 l = (0, d1) ∧ spanGet d1 3 20 = some (9, l) ∧ spanGet d1 3 ((need l.length : Int) - 1) = none ∧ spanClear d1 3 = (0, d2) ∧ spanGet d2 3 20 = none ∧ d1.n ≤ 1000 ∧ d1.p = []) := by
  have hc : cnt l.length ≤ 7 := by unfold cnt; omega
  have hlen := new_len 30
  by_cases h : room < (need l.length : Int)
  · exact .inl ⟨h, put_full _ _ _ _ _ h, get_zero (Dk.new 30) 3 20 (by omega) (new_la 30 3 (by omega)), rfl⟩
  · have hb : 3 + cnt l.length < (Dk.new 30).s.length := by omega
    have hdl : (done (Dk.new 30) 3 9 l).s.length = 30 := by rw [done_len, hlen]
    have hh := done_here (Dk.new 30) 3 9 l hb
    refine .inr ⟨by omega, done (Dk.new 30) 3 9 l, ((done (Dk.new 30) 3 9 l).put 3 zeroB).flushed, put_well (Dk.new 30) 3 room 9 l rfl rfl (by omega) hb, ?_, ?_, ?_, ?_, ?_, done_p _ _ _ _⟩
    · exact get_here _ 3 20 9 l hh (by decide) (by decide) (by omega) (by omega) (by unfold need; omega)
    · exact get_room _ 3 _ 9 l hh (by omega) (by omega) (by omega)
    · exact clear_well _ 3 ((done_down _ _ _ _).trans rfl) ((done_armed _ _ _ _).trans rfl) (by omega)
    · exact clear_none _ 3 20 (by omega)
    · rw [done_n]; show 0 + cnt l.length + 3 ≤ 1000; omega

set_option maxHeartbeats 1000000 in
theorem room_out (p : Option Addr) (n c : Nat) (room : Int) (w : World) (h : 100 < n ∨ room < 0 ∨ 20 < room) (hn : n ≤ 9223372036854775807) :
    Calls Try.prog 6 #[.slice p n c, .int .i64 room] w fun e w' => e = .returned (.bool true) ∧ Below w.heap.size w w' := by
  rcases Classical.em (100 < n) with h1 | h1
  · have h1' : (100 : Int) < (n : Int) := by omega
    clear h h1
    go_enter Try.func6, Try.ntmps6
    go_wp2_with fail
    all_goals
      go_ret
      exact ⟨rfl, Below.refl _ _⟩
  · have h1' : (n : Int) ≤ (100 : Int) := by omega
    rcases Classical.em (room < 0) with h2 | h2
    · clear h h1
      go_enter Try.func6, Try.ntmps6
      go_wp2_with fail
      all_goals
        go_ret
        exact ⟨rfl, Below.refl _ _⟩
    · have h3 : 20 < room := by omega
      clear h h1
      go_enter Try.func6, Try.ntmps6
      go_wp2_with fail
      all_goals
        go_ret
        exact ⟨rfl, Below.refl _ _⟩

set_option maxHeartbeats 4000000 in
set_option maxRecDepth 100000 in
theorem room_in (p : Option Addr) (c : Nat) (l : List UInt8) (room : Int) (w : World) (h : Row w (.slice p l.length c) l) (hl : l.length ≤ 100) (h0 : 0 ≤ room) (h20 : room ≤ 20) :
    Calls Try.prog 6 #[.slice p l.length c, .int .i64 room] w fun e w' => e = .returned (.bool true) ∧ Below w.heap.size w w' := by
  have hm := room_model l room hl
  have hl1 : (l.length : Int) ≤ 100 := by omega
  have hl2 : (0 : Int) ≤ (l.length : Int) := by omega
  have HN := Lib.hid (fun w => need_any l.length w (by omega))
  have HH := Lib.hid (And.intro h hl)
  obtain ⟨X, hX⟩ : ∃ X : Int, X = (need l.length : Int) := ⟨_, rfl⟩
  have hX1 : 1 ≤ X := by rw [hX]; unfold need; omega
  have hX2 : X ≤ 100 := by rw [hX]; unfold need cnt; omega
  rw [← hX] at HN hm
  clear h hl hX
  rcases hm with ⟨g1, g2, g3, g4⟩ | ⟨g1, d1, d2, g2, g3, g4, g5, g6, g7, g8⟩
  · have HM := Lib.hid (And.intro g2 (And.intro g3 g4))
    have g1b : decide (room < X) = true := by simpa using g1
    clear g1 g2 g3 g4
    go_enter Try.func6, Try.ntmps6
    go_wp2_with fail
    refine (new_st 30 (by omega) 30 rfl w).mono ?_
    rintro e w1 ⟨g, rfl, h1⟩
    have H1 := Lib.hid h1
    clear h1
    go_wp2_with fail
    refine (put_st H1.out 3 room (by decide) (by decide) 9 (by decide) 9 rfl HH.out.1 HM.out.1 (by have := HH.out.2; omega) (by have := HH.out.2; show 0 + l.length + 4 < _; omega) (by have := HH.out.2; show 0 + l.length + 4 < _; omega)).mono ?_
    rintro e w2 ⟨rfl, h2⟩
    have H2 := Lib.hid h2
    clear h2
    go_wp2_with fail
    refine (get_none_st H2.out 3 20 HM.out.2.1).mono ?_
    rintro e w3 ⟨v, rfl, h3⟩
    have H3 := Lib.hid h3
    clear h3
    go_wp2_with fail
    refine (HN.out _).mono ?_
    rintro e w4 ⟨rfl, rfl⟩
    go_wp2_with fail
    refine (ops_st H3.out (n := 0) (by rw [HM.out.2.2]; rfl)).mono ?_
    rintro e w4 ⟨rfl, rfl⟩
    go_wp2_with fail
    refine (known_any _).mono ?_
    rintro e w5 ⟨rfl, hb⟩
    have HB := Lib.hid (H3.out.below hb).old
    clear hb
    go_wp2_with fail
    go_ret
    exact ⟨rfl, HB.out⟩
  · have HM := Lib.hid (And.intro g2 (And.intro g3 (And.intro g4 (And.intro g5 (And.intro g6 (And.intro g7 g8))))))
    have g1b : decide (room < X) = false := by simpa using g1
    clear g1 g2 g3 g4 g5 g6 g7 g8
    go_enter Try.func6, Try.ntmps6
    go_wp2_with fail
    refine (new_st 30 (by omega) 30 rfl w).mono ?_
    rintro e w1 ⟨g, rfl, h1⟩
    have H1 := Lib.hid h1
    clear h1
    go_wp2_with fail
    refine (put_st H1.out 3 room (by decide) (by decide) 9 (by decide) 9 rfl HH.out.1 HM.out.1 (by have := HH.out.2; omega) (by have := HH.out.2; show 0 + l.length + 4 < _; omega) (by have := HH.out.2; show 0 + l.length + 4 < _; omega)).mono ?_
    rintro e w2 ⟨rfl, h2⟩
    have H2 := Lib.hid h2
    clear h2
    go_wp2_with fail
    refine (get_some_st H2.out 3 20 (T := 9) (z := 9) rfl HM.out.2.1).mono ?_
    rintro e w3 ⟨a3, c3, rfl, h3⟩
    have H3 := Lib.hid (h3.less (rows' := []) (fun r hr => by cases hr))
    clear h3
    go_wp2_with fail
    refine (HN.out _).mono ?_
    rintro e w4 ⟨rfl, rfl⟩
    go_wp2_with fail
    refine (HN.out _).mono ?_
    rintro e w4 ⟨rfl, rfl⟩
    go_wp2_with fail
    refine (get_none_st H3.out 3 (X - 1) HM.out.2.2.1).mono ?_
    rintro e w4 ⟨v4, rfl, h4⟩
    have H4 := Lib.hid h4
    clear h4
    go_wp2_with fail
    refine (clear_st H4.out 3 HM.out.2.2.2.1 (by have := HM.out.2.2.2.2.2.1; omega) (by rw [HM.out.2.2.2.2.2.2]; decide)).mono ?_
    rintro e w5 ⟨rfl, h5⟩
    have H5 := Lib.hid h5
    clear h5
    go_wp2_with fail
    refine (get_none_st H5.out 3 20 HM.out.2.2.2.2.1).mono ?_
    rintro e w6 ⟨v6, rfl, h6⟩
    have H6 := Lib.hid h6
    clear h6
    go_wp2_with fail
    refine (known_any _).mono ?_
    rintro e w7 ⟨rfl, hb⟩
    have HB := Lib.hid (H6.out.below hb).old
    clear hb
    go_wp2_with fail
    go_ret
    exact ⟨rfl, HB.out⟩

/-- THE LAW's WALK. -/
theorem room_law (p : Option Addr) (c : Nat) (l : List UInt8) (room : Int) (w : World) (h : Row w (.slice p l.length c) l) :
    Calls Try.prog 6 #[.slice p l.length c, .int .i64 room] w fun e w' => e = .returned (.bool true) ∧ Below w.heap.size w w' := by
  by_cases hx : 100 < l.length ∨ room < 0 ∨ 20 < room
  · have h4 := h.length_le
    unfold maxLen at h4
    exact room_out p l.length c room w hx (by omega)
  · exact room_in p c l room w h (by omega) (by omega) (by omega)
end Go.Proofs.Ytjmhonocokjfeaa
