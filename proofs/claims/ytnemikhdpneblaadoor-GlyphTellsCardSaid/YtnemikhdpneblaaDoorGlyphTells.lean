/-
  Proved: the walk of the law GlyphTells: it answers true and changes nothing that was there. Conditions: the library's tables lie as they should.
-/
import Derived.Test.YtnemikhdpneblaaDoorGlyphRefN
import Derived.Test.YtnemikhdpneblaaDoorGlyphKnown
namespace Go.Proofs.YtnemikhdpneblaaDoor
open Go Go.RowKit GlyphMath

theorem tells_long (s : ByteArray) (w : World) (h : 300 < s.size) :
    Calls Tryd.prog 3 #[.string s] w fun e w' => e = .returned (.bool true) ∧ Below w.heap.size w w' := by
  have h1 : (300 : Int) < s.size := by omega
  clear h
  go_enter Tryd.func3, Tryd.ntmps3
  go_wp2_with fail
  go_ret
  exact ⟨rfl, Below.refl _ _⟩

/-- The law on its way: the tables, what was there, a row of letters. -/
structure StG (w : World) (B : Nat) (v : Value) (l : List Nat) (wr : World) : Prop where
  tabs : Tabs wr
  below : Below w.heap.size w wr
  row : RowL wr B v l
theorem StG.on {w wr w' : World} {B : Nat} {v : Value} {l : List Nat} (h : StG w B v l wr) (hb : Below wr.heap.size wr w') : StG w B v l w' :=
  ⟨h.tabs.below hb, h.below.trans (hb.mono h.below.size), h.row.below hb⟩

set_option maxHeartbeats 1000000 in
theorem tells_in (s : ByteArray) (w : World) (h : s.size ≤ 300) (hT : Tabs w) :
    Calls Tryd.prog 3 #[.string s] w fun e w' => e = .returned (.bool true) ∧ Below w.heap.size w w' := by
  have h1 : ¬ (300 : Int) < s.size := by omega
  have hll := letters_length s
  obtain ⟨L, hL⟩ : ∃ L, letters s = L := ⟨_, rfl⟩
  obtain ⟨P, hP⟩ : ∃ P : Int, (place s : Int) = P := ⟨_, rfl⟩
  obtain ⟨T, hTx⟩ : ∃ T, isText s = T := ⟨_, rfl⟩
  obtain ⟨Q, hQ⟩ : ∃ Q, nameL L = Q := ⟨_, rfl⟩
  obtain ⟨n, hn⟩ : ∃ n, L.length = n := ⟨_, rfl⟩
  have hns : (n : Int) ≤ s.size := by rw [← hn, ← hL]; omega
  have CV := Lib.hid (fun W : World => (show Calls Tryd.prog 5 #[.string s] W fun e w' => e = .returned (.tuple #[.int .i64 P, .bool T]) ∧ Below W.heap.size W w' by rw [← hP, ← hTx]; exact valid_any s W))
  have CR := Lib.hid (fun (W : World) (hW : Tabs W) => (show Calls Tryd.prog 6 #[.string s] W fun e w' => e = .returned (.tuple #[.int .i64 P, .bool T]) ∧ Below W.heap.size W w' by rw [← hP, ← hTx]; exact rvalid_any s W (by omega) hW))
  have CG := Lib.hid (fun W : World => (show Calls Tryd.prog 9 #[.string s] W fun e w' => ∃ v, e = .returned v ∧ RowL w' W.heap.size v L ∧ Below W.heap.size W w' by rw [← hL]; exact (runes_any s W (by omega)).mono fun _ _ ⟨g, c, he, hr, hb⟩ => ⟨_, he, hr, hb⟩))
  have CF := Lib.hid (fun (W : World) (hW : Tabs W) => (show Calls Tryd.prog 7 #[.string s] W fun e w' => ∃ a c, e = .returned (.slice a n c) ∧ RowL w' W.heap.size (.slice a n c) L ∧ Below W.heap.size W w' by
    rw [← hn, ← hL]
    refine (rrunes_any s W (by omega) hW).mono ?_
    rintro e w' ⟨v, rfl, hr, hb⟩
    obtain ⟨a, c, rfl⟩ := hr.shape
    exact ⟨a, c, rfl, hr, hb⟩))
  have CC := Lib.hid (fun W : World => (show Calls Tryd.prog 10 #[.string s] W fun e w' => e = .returned (.int .i64 (n : Int)) ∧ Below W.heap.size W w' by rw [← hn, ← hL]; exact count_any s W (by omega)))
  have CN := Lib.hid (fun W : World => (show Calls Tryd.prog 11 #[.string s] W fun e w' => e = .returned (.bool Q) ∧ Below W.heap.size W w' by rw [← hQ, ← hL]; exact name_any s W))
  have CM := Lib.hid (fun (W : World) (hW : Tabs W) => (show Calls Tryd.prog 12 #[.string s] W fun e w' => e = .returned (.bool Q) ∧ Below W.heap.size W w' by rw [← hQ, ← hL]; exact rname_any s W (by omega) hW))
  have HT := Lib.hid hT
  clear hT h hll hL hP hTx hQ hn
  go_enter Tryd.func3, Tryd.ntmps3
  go_wp2_with (first
    | (go_at_call 5; refine (CV.out _).mono ?_; rintro e w1 ⟨rfl, hb1⟩; have H1 := Lib.hid hb1; have T1 := Lib.hid (HT.out.below hb1); clear hb1)
    | (go_at_call 6; refine (CR.out _ T1.out).mono ?_; rintro e w2 ⟨rfl, hb2⟩; have H2 := Lib.hid (H1.out.trans (hb2.mono H1.out.size)); have T2 := Lib.hid (T1.out.below hb2); clear hb2)
    | (go_at_call 7; refine (CF.out _ T2.out).mono ?_; rintro e w3 ⟨a3, c3, rfl, hr3, hb3⟩; have S3 := Lib.hid (show StG w w2.heap.size (.slice a3 n c3) L w3 from ⟨T2.out.below hb3, H2.out.trans (hb3.mono H2.out.size), hr3⟩); clear hb3 hr3)
    | (go_at_call 9; refine (CG.out _).mono ?_; rintro e w4 ⟨v4, rfl, hr4, hb4⟩; have S4 := Lib.hid (S3.out.on hb4); have R4 := Lib.hid hr4; clear hb4 hr4)
    | (go_at_call 8; refine (same_any R4.out S4.out.row).mono ?_; rintro e w5 ⟨rfl, rfl⟩)
    | (go_at_call 10; refine (CC.out _).mono ?_; rintro e w6 ⟨rfl, hb6⟩; have S6 := Lib.hid (S4.out.on hb6); clear hb6)
    | (go_at_call 11; refine (CN.out _).mono ?_; rintro e w7 ⟨rfl, hb7⟩; have S7 := Lib.hid (S6.out.on hb7); clear hb7)
    | (go_at_call 12; refine (CM.out _ S7.out.tabs).mono ?_; rintro e w8 ⟨rfl, hb8⟩; have S8 := Lib.hid (S7.out.on hb8); clear hb8)
    | (go_at_call 13; refine (known_any _).mono ?_; rintro e w9 ⟨rfl, hb9⟩; have S9 := Lib.hid (S8.out.on hb9); clear hb9))
  go_ret
  exact ⟨rfl, S9.out.below⟩

theorem tells_law (s : ByteArray) (w : World) (hT : Tabs w) :
    Calls Tryd.prog 3 #[.string s] w fun e w' => e = .returned (.bool true) ∧ Below w.heap.size w w' := by
  by_cases h : 300 < s.size
  · exact tells_long s w h
  · exact tells_in s w (by omega) hT
end Go.Proofs.YtnemikhdpneblaaDoor
