/-
  Proved: the walk of the law GlyphJoin: it answers true and changes nothing that was there. Conditions: the library's tables lie as they should; the texts' lengths are ints.
-/
import Derived.Test.YtnemikhdpneblaaDoorGlyphTells
namespace Go.Proofs.YtnemikhdpneblaaDoor
open Go Go.RowKit GlyphMath

theorem isText_iff (s : ByteArray) : isText s = true ↔ firstBad s = none := by
  unfold isText
  cases firstBad s <;> simp
theorem join_place (a b : ByteArray) (ha : isText a = true) (hb : isText b = true) : (place (a ++ b) : Int) = a.size + b.size ∧ isText (a ++ b) = true := by
  have h := firstBad_append a b ((isText_iff a).1 ha)
  rw [(isText_iff b).1 hb] at h
  constructor
  · unfold place
    rw [h, ByteArray.size_append]
    simp
  · exact (isText_iff _).2 h

theorem rc_both (l m : List Nat) : rc l ++ rc m = rc (l ++ m) := by simp [rc]
theorem rc_one (l : List Nat) : ∀ u ∈ rc l, u.oneCell' = true := by
  intro u hu
  simp only [rc, List.mem_map] at hu
  obtain ⟨x, -, rfl⟩ := hu
  rfl
theorem rc_cells {w : World} {B g c : Nat} {l : List Nat} (h : RowL w B (.slice (some ⟨g, 0, none⟩) l.length c) l) : ∀ (j : Nat) (u : Value), (rc l)[j]? = some u → w.cell? ((⟨g, 0, none⟩ : Addr).add j) = some u := by
  intro j u hu
  have hj : j < l.length := by have := (List.getElem?_eq_some_iff.1 hu).1; rwa [rc_length] at this
  rw [addr_add, h.cell j hj, ← hu]
  simp [rc, hj]

/-- Behind the append both rows hold the letters of both. -/
theorem join_rows {w w4 w6 w7 : World} {B g4 g5 c4 c5 : Nat} {la lb : List Nat} {v : Value} (hbl : Below w.heap.size w w6) (hs4 : w.heap.size ≤ w4.heap.size) (hg4 : g4 < w4.heap.size) (hg5 : w4.heap.size ≤ g5)
    (hr : RowL w6 B (.slice (some ⟨g4, 0, none⟩) (la ++ lb).length c4) (la ++ lb))
    (hown : w7.ownsRow w4.heap.size 21 1 v (la.length + lb.length) (rc la ++ rc lb)) (hg : w6.grownBy w7 (Value.slice (some ⟨g5, 0, none⟩) la.length c5).ownBlock) :
    RowL w7 B (.slice (some ⟨g4, 0, none⟩) (la ++ lb).length c4) (la ++ lb) ∧ RowL w7 w4.heap.size v (la ++ lb) ∧ Below w.heap.size w w7 := by
  refine ⟨?_, ?_, ?_⟩
  · refine World.ownsRow.kept hr hg (.inr ?_)
    simp only [Value.ownBlock, ne_eq, Option.some.injEq]
    omega
  · unfold RowL
    rw [List.length_append, ← rc_both]
    exact hown
  · refine hbl.grown hg hbl.size ?_
    intro k e
    simp only [Value.ownBlock, Option.some.injEq] at e
    omega

set_option maxHeartbeats 1000000 in
theorem join_in (a b : ByteArray) (w : World) (h1 : a.size ≤ 200) (h2 : b.size ≤ 200) (ha : isText a = true) (hb : isText b = true) (hT : Tabs w) :
    Calls Tryd.prog 4 #[.string a, .string b] w fun e w' => e = .returned (.bool true) ∧ Below w.heap.size w w' := by
  obtain ⟨la, hla⟩ : ∃ l, letters a = l := ⟨_, rfl⟩
  obtain ⟨lb, hlb⟩ : ∃ l, letters b = l := ⟨_, rfl⟩
  have hlla := letters_length a
  have hllb := letters_length b
  have hab : letters (a ++ b) = la ++ lb := by rw [letters_append a b ((isText_iff a).1 ha), hla, hlb]
  have hj := join_place a b ha hb
  have CVa := Lib.hid (fun (W : World) (hW : Tabs W) => (show Calls Tryd.prog 6 #[.string a] W fun e w' => e = .returned (.tuple #[.int .i64 (place a : Int), .bool true]) ∧ Below W.heap.size W w' by rw [← ha]; exact rvalid_any a W (by omega) hW))
  have CVb := Lib.hid (fun (W : World) (hW : Tabs W) => (show Calls Tryd.prog 6 #[.string b] W fun e w' => e = .returned (.tuple #[.int .i64 (place b : Int), .bool true]) ∧ Below W.heap.size W w' by rw [← hb]; exact rvalid_any b W (by omega) hW))
  have CV := Lib.hid (fun W : World => (show Calls Tryd.prog 5 #[.string (a ++ b)] W fun e w' => e = .returned (.tuple #[.int .i64 ((a.size : Int) + b.size), .bool true]) ∧ Below W.heap.size W w' by rw [← hj.1, ← hj.2]; exact valid_any (a ++ b) W))
  have CG := Lib.hid (fun W : World => (show Calls Tryd.prog 9 #[.string (a ++ b)] W fun e w' => ∃ g c, e = .returned (.slice (some ⟨g, 0, none⟩) (la ++ lb).length c) ∧ RowL w' W.heap.size (.slice (some ⟨g, 0, none⟩) (la ++ lb).length c) (la ++ lb) ∧ Below W.heap.size W w' by rw [← hab]; exact runes_any (a ++ b) W (by rw [ByteArray.size_append]; omega)))
  have CGa := Lib.hid (fun W : World => (show Calls Tryd.prog 9 #[.string a] W fun e w' => ∃ g c, e = .returned (.slice (some ⟨g, 0, none⟩) la.length c) ∧ RowL w' W.heap.size (.slice (some ⟨g, 0, none⟩) la.length c) la ∧ Below W.heap.size W w' by rw [← hla]; exact runes_any a W (by omega)))
  have CGb := Lib.hid (fun W : World => (show Calls Tryd.prog 9 #[.string b] W fun e w' => ∃ g c, e = .returned (.slice (some ⟨g, 0, none⟩) lb.length c) ∧ RowL w' W.heap.size (.slice (some ⟨g, 0, none⟩) lb.length c) lb ∧ Below W.heap.size W w' by rw [← hlb]; exact runes_any b W (by omega)))
  have C3 := Lib.hid (show la.length + lb.length ≤ maxLen by rw [← hla, ← hlb]; unfold maxLen; omega)
  have C4 := Lib.hid (show (la.length + lb.length) * 4 ≤ 140737488355328 by rw [← hla, ← hlb]; omega)
  have hs : a.size + b.size ≤ 9223372036854775807 := by omega
  have g1 : ¬ (200 : Int) < a.size := by omega
  have g2 : ¬ (200 : Int) < b.size := by omega
  have g3 : (a.size : Int) + b.size ≤ 9223372036854775807 := by omega
  have HT := Lib.hid hT
  obtain ⟨i0, hi, hz0, hz1, hz2⟩ := info_parts info32
  clear hT h1 h2 ha hb hla hlb hlla hllb hab hj
  go_enter Tryd.func4, Tryd.ntmps4
  go_wp2_with (first
    | (go_at_call 6; (with_reducible refine (CVa.out _ HT.out).mono ?_); rintro e w1 ⟨rfl, hb1⟩; have H1 := Lib.hid hb1; have T1 := Lib.hid (HT.out.below hb1); clear hb1 CVa)
    | (go_at_call 6; (with_reducible refine (CVb.out _ T1.out).mono ?_); rintro e w2 ⟨rfl, hb2⟩; have H2 := Lib.hid (H1.out.trans (hb2.mono H1.out.size)); clear hb2 CVb)
    | (go_at_call 5; (with_reducible refine (CV.out _).mono ?_); rintro e w3 ⟨rfl, hb3⟩; have H3 := Lib.hid (H2.out.trans (hb3.mono H2.out.size)); clear hb3 CV)
    | (go_at_call 9; (with_reducible refine (CG.out _).mono ?_); rintro e w4 ⟨g4, c4, rfl, hr4, hb4⟩; have H4 := Lib.hid (H3.out.trans (hb4.mono H3.out.size)); have R4 := Lib.hid hr4; have L4 := Lib.hid (World.ownsRow.lt hr4 g4 rfl).2; clear hb4 hr4 CG)
    | (go_at_call 9; (with_reducible refine (CGa.out _).mono ?_); rintro e w5 ⟨g5, c5, rfl, hr5, hb5⟩; have H5 := Lib.hid (H4.out.trans (hb5.mono H4.out.size)); have R45 := Lib.hid (R4.out.below hb5); have R5 := Lib.hid hr5; have L5 := Lib.hid (World.ownsRow.lt hr5 g5 rfl).1; have Z5 := Lib.hid hb5.size; clear hb5 hr5 CGa)
    | (go_at_call 9; (with_reducible refine (CGb.out _).mono ?_); rintro e w6 ⟨g6, c6, rfl, hr6, hb6⟩; have H6 := Lib.hid (H5.out.trans (hb6.mono H5.out.size)); have R46 := Lib.hid (R45.out.below hb6); have R56 := Lib.hid (show w6.ownsRow w4.heap.size 21 1 (.slice (some ⟨g5, 0, none⟩) la.length c5) la.length (rc la) from R5.out.below hb6); have R6 := Lib.hid hr6; have Z6 := Lib.hid (Nat.le_trans Z5.out hb6.size); clear hb6 hr6 CGb)
    | (at_builtin; refine wpList_append_own _ rfl _ _ 24 rfl w4.heap.size 21 i0 (.int .i32 0) 1 4 Tryd.underlying24 hi hz0 hz1 hz2 rfl (by decide) _ _ _ rfl R56.out ⟨g6, 0, none⟩ lb.length c6 (rc lb) rfl (by rw [rc_length, Nat.mul_one]) (rc_cells R6.out) (rc_one lb) C3.out C4.out Z6.out ?_; intro v7 w7 hown7 hg7 _; have J7 := join_rows H6.out H4.out.size L4.out L5.out R46.out hown7 hg7; have CS0 := same_any J7.1 J7.2.1; rw [List.length_append] at CS0; have CS := Lib.hid CS0; have H7 := Lib.hid J7.2.2; clear CS0 J7 hown7 hg7)
    | (go_at_call 8; (with_reducible refine CS.out.mono ?_); rintro e w8 ⟨rfl, rfl⟩)
    | (go_at_call 13; refine (known_any _).mono ?_; rintro e w9 ⟨rfl, hb9⟩; have H9 := Lib.hid (H7.out.trans (hb9.mono H7.out.size)); clear hb9))
  go_ret
  exact ⟨rfl, H9.out⟩

/-- Where it stops at once. -/
theorem join_out (a b : ByteArray) (w : World) (h1 : a.size ≤ 9223372036854775807) (h2 : b.size ≤ 9223372036854775807) (h : 200 < a.size ∨ 200 < b.size ∨ isText a = false ∨ isText b = false) (hT : Tabs w) :
    Calls Tryd.prog 4 #[.string a, .string b] w fun e w' => e = .returned (.bool true) ∧ Below w.heap.size w w' := by
  obtain ⟨p, hp⟩ : ∃ p, isText a = p := ⟨_, rfl⟩
  obtain ⟨q, hq⟩ : ∃ q, isText b = q := ⟨_, rfl⟩
  have CVa := Lib.hid (fun (W : World) (hW : Tabs W) => (show Calls Tryd.prog 6 #[.string a] W fun e w' => e = .returned (.tuple #[.int .i64 (place a : Int), .bool p]) ∧ Below W.heap.size W w' by rw [← hp]; exact rvalid_any a W h1 hW))
  have CVb := Lib.hid (fun (W : World) (hW : Tabs W) => (show Calls Tryd.prog 6 #[.string b] W fun e w' => e = .returned (.tuple #[.int .i64 (place b : Int), .bool q]) ∧ Below W.heap.size W w' by rw [← hq]; exact rvalid_any b W h2 hW))
  have HT := Lib.hid hT
  rw [hp, hq] at h
  clear hT h1 h2 hp hq
  by_cases k1 : 200 < a.size
  · have g1 : (200 : Int) < a.size := by omega
    clear k1 h
    go_enter Tryd.func4, Tryd.ntmps4
    go_wp2_with (first
      | (go_at_call 6; (with_reducible refine (CVa.out _ HT.out).mono ?_); rintro e w1 ⟨rfl, hb1⟩; have H1 := Lib.hid hb1; have T1 := Lib.hid (HT.out.below hb1); clear hb1 CVa)
      | (go_at_call 6; (with_reducible refine (CVb.out _ T1.out).mono ?_); rintro e w2 ⟨rfl, hb2⟩; have H2 := Lib.hid (H1.out.trans (hb2.mono H1.out.size)); clear hb2 CVb))
    go_ret
    exact ⟨rfl, H2.out⟩
  · have g1 : ¬ (200 : Int) < a.size := by omega
    by_cases k2 : 200 < b.size
    · have g2 : (200 : Int) < b.size := by omega
      clear k1 k2 h
      go_enter Tryd.func4, Tryd.ntmps4
      go_wp2_with (first
        | (go_at_call 6; (with_reducible refine (CVa.out _ HT.out).mono ?_); rintro e w1 ⟨rfl, hb1⟩; have H1 := Lib.hid hb1; have T1 := Lib.hid (HT.out.below hb1); clear hb1 CVa)
        | (go_at_call 6; (with_reducible refine (CVb.out _ T1.out).mono ?_); rintro e w2 ⟨rfl, hb2⟩; have H2 := Lib.hid (H1.out.trans (hb2.mono H1.out.size)); clear hb2 CVb))
      go_ret
      exact ⟨rfl, H2.out⟩
    · have g2 : ¬ (200 : Int) < b.size := by omega
      have h' : p = false ∨ (p = true ∧ q = false) := by
        rcases h with h | h | h | h
        · exact absurd h k1
        · exact absurd h k2
        · exact .inl h
        · cases p <;> simp [h]
      clear k1 k2 h
      rcases h' with rfl | ⟨rfl, rfl⟩
      all_goals
        go_enter Tryd.func4, Tryd.ntmps4
        go_wp2_with (first
          | (go_at_call 6; (with_reducible refine (CVa.out _ HT.out).mono ?_); rintro e w1 ⟨rfl, hb1⟩; have H1 := Lib.hid hb1; have T1 := Lib.hid (HT.out.below hb1); clear hb1 CVa)
          | (go_at_call 6; (with_reducible refine (CVb.out _ T1.out).mono ?_); rintro e w2 ⟨rfl, hb2⟩; have H2 := Lib.hid (H1.out.trans (hb2.mono H1.out.size)); clear hb2 CVb))
        go_ret
        exact ⟨rfl, H2.out⟩

theorem join_law (a b : ByteArray) (w : World) (h1 : a.size ≤ maxLen) (h2 : b.size ≤ maxLen) (hT : Tabs w) :
    Calls Tryd.prog 4 #[.string a, .string b] w fun e w' => e = .returned (.bool true) ∧ Below w.heap.size w w' := by
  unfold maxLen at h1 h2
  by_cases h : 200 < a.size ∨ 200 < b.size ∨ isText a = false ∨ isText b = false
  · exact join_out a b w h1 h2 h hT
  · exact join_in a b w (by omega) (by omega) (by cases hx : isText a <;> simp_all) (by cases hx : isText b <;> simp_all) hT
end Go.Proofs.YtnemikhdpneblaaDoor
