/-
  Proved: the walk of the law GlobStar: it answers true and changes nothing that was there. Conditions: the library's tables lie as they should; the texts' lengths are ints.
-/
import Derived.Test.YtpgmlbdfmcbgoaaDoorGlRow
import Derived.Test.YtpgmlbdfmcbgoaaDoorGlyphRef
import Derived.Deep.Cut
namespace Go.Proofs.YtpgmlbdfmcbgoaaDoor
open Go Go.RowKit GlyphMath GlMath

theorem isText_none {s : ByteArray} (h : isText s = true) : firstBad s = none := by
  unfold isText at h
  cases hf : firstBad s with
  | none => rfl
  | some x => rw [hf] at h; simp at h
theorem star_math (a b : ByteArray) (ha : isText a = true) :
    globM (chM true (letters a) ++ [(42, false)]) (toI (letters (a ++ b))) = true ∧ globM ([(42, false)] ++ chM true (letters b)) (toI (letters (a ++ b))) = true ∧
    globM (chM true (letters a) ++ [(63, false)] ++ chM true (letters b)) (toI (letters (a ++ b))) = false ∧ globM (chM true (letters a) ++ [(63, false)] ++ chM true (letters b)) (toI (letters (a ++ ⟨#[120]⟩ ++ b))) = true := by
  have hfa := isText_none ha
  have hax : firstBad (a ++ ⟨#[120]⟩) = none := by
    rw [firstBad_append a _ hfa, show firstBad ⟨#[120]⟩ = none by kernel_rfl]; rfl
  rw [letters_append a b hfa, letters_append _ b hax, letters_append a _ hfa, show letters ⟨#[120]⟩ = [120] by kernel_rfl]
  exact ⟨glob_behind _ _ (letters_ok a), glob_ahead _ _ (letters_ok b), glob_few _ _, glob_mid _ _ 120 (letters_ok a) (letters_ok b)⟩
theorem star_sign : chM false (letters ⟨#[42]⟩) = [(42, false)] := by kernel_rfl
theorem ask_sign : chM false (letters ⟨#[63]⟩) = [(63, false)] := by kernel_rfl

set_option maxHeartbeats 4000000 in
set_option maxRecDepth 100000 in
theorem star_in (a b : ByteArray) (w : World) (h1 : a.size ≤ 40) (h2 : b.size ≤ 40) (ha : isText a = true) (hb : isText b = true) (hT : Tabs w) :
    Calls Tryd.prog 4 #[.string a, .string b] w fun e w' => e = .returned (.bool true) ∧ Below w.heap.size w w' := by
  obtain ⟨m1, m2, m3, m4⟩ := star_math a b ha
  have hla := letters_length a
  have hlb := letters_length b
  have CVa := Lib.hid (fun (W : World) (hW : Tabs W) => (show Calls Tryd.prog 12 #[.string a] W fun e w' => e = .returned (.tuple #[.int .i64 (place a : Int), .bool true]) ∧ Below W.heap.size W w' by rw [← ha]; exact rvalid_any a W (by omega) hW))
  have CVb := Lib.hid (fun (W : World) (hW : Tabs W) => (show Calls Tryd.prog 12 #[.string b] W fun e w' => e = .returned (.tuple #[.int .i64 (place b : Int), .bool true]) ∧ Below W.heap.size W w' by rw [← hb]; exact rvalid_any b W (by omega) hW))
  have HCa := Lib.hid (fun W => chars_any a true W (by omega))
  have HCb := Lib.hid (fun W => chars_any b true W (by omega))
  have HCs := Lib.hid (fun W => chars_any ⟨#[42]⟩ false W (by decide))
  have HCq := Lib.hid (fun W => chars_any ⟨#[63]⟩ false W (by decide))
  rw [star_sign, show (letters ⟨#[42]⟩).length = 1 by kernel_rfl] at HCs
  rw [ask_sign, show (letters ⟨#[63]⟩).length = 1 by kernel_rfl] at HCq
  obtain ⟨na, hna⟩ : ∃ n, (letters a).length = n := ⟨_, rfl⟩
  obtain ⟨nb, hnb⟩ : ∃ n, (letters b).length = n := ⟨_, rfl⟩
  rw [hna] at HCa hla
  rw [hnb] at HCb hlb
  obtain ⟨A, hA⟩ : ∃ A, chM true (letters a) = A := ⟨_, rfl⟩
  obtain ⟨B, hB⟩ : ∃ B, chM true (letters b) = B := ⟨_, rfl⟩
  have hAl : A.length = na := by rw [← hA, chM_length, hna]
  have hBl : B.length = nb := by rw [← hB, chM_length, hnb]
  rw [hA] at HCa m1 m3 m4
  rw [hB] at HCb m2 m3 m4
  have HL := Lib.hid (And.intro hAl (And.intro hBl (show na ≤ 40 ∧ nb ≤ 40 from ⟨by omega, by omega⟩)))
  have z1 : (a ++ b).size ≤ 1000 := by rw [ByteArray.size_append]; omega
  have z2 : (a ++ ⟨#[120]⟩ ++ b).size ≤ 1000 := by rw [ByteArray.size_append, ByteArray.size_append, show (⟨#[120]⟩ : ByteArray).size = 1 from rfl]; omega
  have HM1 := Lib.hid (fun (v : Value) (W : World) (h : ChAt W v (A ++ [(42, false)])) => match_D _ v _ _ W h (by rw [List.length_append]; simp; omega) z1 m1)
  have HM2 := Lib.hid (fun (v : Value) (W : World) (h : ChAt W v ([(42, false)] ++ B)) => match_D _ v _ _ W h (by rw [List.length_append]; simp; omega) z1 m2)
  have HM3 := Lib.hid (fun (v : Value) (W : World) (h : ChAt W v (A ++ [(63, false)] ++ B)) => match_D _ v _ _ W h (by simp; omega) z1 m3)
  have HM4 := Lib.hid (fun (v : Value) (W : World) (h : ChAt W v (A ++ [(63, false)] ++ B)) => match_D _ v _ _ W h (by simp; omega) z2 m4)
  have g1 : decide ((40 : Int) < (a.size : Int)) = false := decide_eq_false (by omega)
  have g2 : decide ((40 : Int) < (b.size : Int)) = false := decide_eq_false (by omega)
  have G3 := Lib.hid (show (a.size : Int) + b.size ≤ 9223372036854775807 by omega)
  have G4 := Lib.hid (show (a.size : Int) + 1 ≤ 9223372036854775807 by omega)
  have G5 := Lib.hid (show (a.size : Int) + 1 + b.size ≤ 9223372036854775807 by omega)
  have HT := Lib.hid hT
  obtain ⟨i0, hi, hz0, hz1, hz2⟩ := info_parts infoCh
  have HI := Lib.hid (And.intro hi (And.intro hz0 (And.intro hz1 hz2)))
  have HZ := Lib.hid (show na + 1 ≤ maxLen ∧ (na + 1) * 8 ≤ 140737488355328 ∧ 1 + nb ≤ maxLen ∧ (1 + nb) * 8 ≤ 140737488355328 ∧ na + 1 + nb ≤ maxLen ∧ (na + 1 + nb) * 8 ≤ 140737488355328 from by unfold maxLen; omega)
  clear hT h1 h2 ha hb hla hlb m1 m2 m3 m4 hna hnb hA hB hAl hBl z1 z2 hi hz0 hz1 hz2
  go_enter Tryd.func4, Tryd.ntmps4
  go_upto_region 5 with (first
    | (go_at_call 12; (with_reducible refine (CVa.out _ HT.out).mono ?_); rintro e w1 ⟨rfl, hb1⟩; have H1 := Lib.hid hb1; have T1 := Lib.hid (HT.out.below hb1); clear hb1 CVa)
    | (go_at_call 12; (with_reducible refine (CVb.out _ T1.out).mono ?_); rintro e w2 ⟨rfl, hb2⟩; have H2 := Lib.hid (H1.out.trans (hb2.mono H1.out.size)); clear hb2 CVb))
  clear g1 g2
  go_upto_region 6 with (first
    | (go_at_call 5; (with_reducible refine (HCa.out w2).mono ?_); rintro e w3 ⟨g3, c3, rfl, hr, hb⟩; have R3 := Lib.hid hr; have H3 := Lib.hid hb; clear hb hr)
    | (go_at_call 5; (with_reducible refine (HCs.out w3).mono ?_); rintro e w4 ⟨g4, c4, rfl, hr, hb⟩; have R4 := Lib.hid hr; have R34 := Lib.hid (R3.out.below hb); have H4 := Lib.hid (H3.out.trans (hb.mono H3.out.size)); clear hb hr)
    | (at_builtin; refine wpList_append_own _ rfl _ _ 22 rfl w2.heap.size 35 i0 (.agg #[.int .i32 0, .bool false]) 2 8 Tryd.underlying22 HI.out.1 HI.out.2.1 HI.out.2.2.1 HI.out.2.2.2 rfl (by decide) (.slice (some ⟨g3, 0, none⟩) na c3) (na) (chC (A)) (by rfl) (by have := R34.out; unfold RowC at this; rwa [HL.out.1] at this) ⟨g4, 0, none⟩ 1 c4 (chC [(42, false)]) (by rfl) (by rfl) R4.out.news (chC_one _) HZ.out.1 HZ.out.2.1 H4.out.size ?_; intro v5 w5 hown hg hn; clear hn; have J5 := Lib.hid (RowC.app (v5 := v5) (l2 := [(42, false)]) H4.out R34.out (by rw [HL.out.1]; exact hown) hg); clear hown hg))
  have A5 := Lib.hid J5.out.1.at_
  have B5 := Lib.hid (H2.out.trans (J5.out.2.mono H2.out.size))
  go_upto_region 7 with (first
    | (go_at_call 5; (with_reducible refine (HCs.out w5).mono ?_); rintro e w6 ⟨g6, c6, rfl, hr, hb⟩; have R6 := Lib.hid hr; have H6 := Lib.hid hb; clear hb hr)
    | (go_at_call 5; (with_reducible refine (HCb.out w6).mono ?_); rintro e w7 ⟨g7, c7, rfl, hr, hb⟩; have R7 := Lib.hid hr; have R67 := Lib.hid (R6.out.below hb); have H7 := Lib.hid (H6.out.trans (hb.mono H6.out.size)); clear hb hr)
    | (at_builtin; refine wpList_append_own _ rfl _ _ 22 rfl w5.heap.size 35 i0 (.agg #[.int .i32 0, .bool false]) 2 8 Tryd.underlying22 HI.out.1 HI.out.2.1 HI.out.2.2.1 HI.out.2.2.2 rfl (by decide) (.slice (some ⟨g6, 0, none⟩) 1 c6) (1) (chC ([(42, false)])) (by rfl) R67.out ⟨g7, 0, none⟩ nb c7 (chC B) (by rfl) (by rw [chC_length, HL.out.2.1]) R7.out.news (chC_one _) HZ.out.2.2.1 HZ.out.2.2.2.1 H7.out.size ?_; intro v8 w8 hown hg hn; clear hn; have J8 := Lib.hid (RowC.app (v5 := v8) (l2 := B) H7.out R67.out (by rw [HL.out.2.1]; exact hown) hg); clear hown hg))
  have A58 := Lib.hid (A5.out.below J8.out.2)
  have A8 := Lib.hid J8.out.1.at_
  have B8 := Lib.hid (B5.out.trans (J8.out.2.mono B5.out.size))
  go_upto_region 8 with (first
    | (go_at_call 5; (with_reducible refine (HCa.out w8).mono ?_); rintro e w9 ⟨g9, c9, rfl, hr, hb⟩; have R9 := Lib.hid hr; have H9 := Lib.hid hb; clear hb hr)
    | (go_at_call 5; (with_reducible refine (HCq.out w9).mono ?_); rintro e w10 ⟨g10, c10, rfl, hr, hb⟩; have R10 := Lib.hid hr; have R910 := Lib.hid (R9.out.below hb); have H10 := Lib.hid (H9.out.trans (hb.mono H9.out.size)); clear hb hr)
    | (at_builtin; refine wpList_append_own _ rfl _ _ 22 rfl w8.heap.size 35 i0 (.agg #[.int .i32 0, .bool false]) 2 8 Tryd.underlying22 HI.out.1 HI.out.2.1 HI.out.2.2.1 HI.out.2.2.2 rfl (by decide) (.slice (some ⟨g9, 0, none⟩) na c9) (na) (chC (A)) (by rfl) (by have := R910.out; unfold RowC at this; rwa [HL.out.1] at this) ⟨g10, 0, none⟩ 1 c10 (chC [(63, false)]) (by rfl) (by rfl) R10.out.news (chC_one _) HZ.out.1 HZ.out.2.1 H10.out.size ?_; intro v11 w11 hown hg hn; clear hn; have J11 := Lib.hid (RowC.app (v5 := v11) (l2 := [(63, false)]) H10.out R910.out (by rw [HL.out.1]; exact hown) hg); clear hown hg)
    | (go_at_call 5; (with_reducible refine (HCb.out w11).mono ?_); rintro e w12 ⟨g12, c12, rfl, hr, hb⟩; have R12 := Lib.hid hr; have R1112 := Lib.hid (J11.out.1.below hb); have H12 := Lib.hid (J11.out.2.trans (hb.mono J11.out.2.size)); clear hb hr)
    | (at_builtin; refine wpList_append_own _ rfl _ _ 22 rfl w8.heap.size 35 i0 (.agg #[.int .i32 0, .bool false]) 2 8 Tryd.underlying22 HI.out.1 HI.out.2.1 HI.out.2.2.1 HI.out.2.2.2 rfl (by decide) (v11) (na + 1) (chC (A ++ [(63, false)])) (by rfl) (by have := R1112.out; unfold RowC at this; rw [List.length_append, HL.out.1] at this; exact this) ⟨g12, 0, none⟩ nb c12 (chC B) (by rfl) (by rw [chC_length, HL.out.2.1]) R12.out.news (chC_one _) HZ.out.2.2.2.2.1 HZ.out.2.2.2.2.2 H12.out.size ?_; intro v13 w13 hown hg hn; clear hn; have J13 := Lib.hid (RowC.app (v5 := v13) (l2 := B) H12.out R1112.out (by rw [List.length_append, HL.out.1, HL.out.2.1]; exact hown) hg); clear hown hg))
  have A513 := Lib.hid (A58.out.below J13.out.2)
  have A813 := Lib.hid (A8.out.below J13.out.2)
  have A13 := Lib.hid J13.out.1.at_
  have B13 := Lib.hid (B8.out.trans (J13.out.2.mono B8.out.size))
  have g3' := G3.out
  have g4' := G4.out
  have g5' := G5.out
  go_wp2_with (first
    | (go_at_call 8; (with_reducible refine (HM1.out v5 w13 A513.out).mono ?_); rintro e w14 ⟨rfl, hb⟩; have H14 := Lib.hid (show Below w13.heap.size w13 w14 from hb); clear hb)
    | (go_at_call 8; (with_reducible refine (HM2.out v8 w14 (A813.out.below H14.out)).mono ?_); rintro e w15 ⟨rfl, hb⟩; have H15 := Lib.hid (H14.out.trans (hb.mono H14.out.size)); clear hb)
    | (go_at_call 8; (with_reducible refine (HM3.out v13 w15 (A13.out.below H15.out)).mono ?_); rintro e w16 ⟨rfl, hb⟩; have H16 := Lib.hid (H15.out.trans (hb.mono H15.out.size)); clear hb)
    | (go_at_call 8; (with_reducible refine (HM4.out v13 w16 (A13.out.below H16.out)).mono ?_); rintro e w17 ⟨rfl, hb⟩; have H17 := Lib.hid (H16.out.trans (hb.mono H16.out.size)); clear hb)
    | (go_at_call 11; (with_reducible refine (known_any _).mono ?_); rintro e w18 ⟨rfl, hb⟩; have H18 := Lib.hid (H17.out.trans (hb.mono H17.out.size)); clear hb))
  go_ret
  exact ⟨rfl, B13.out.trans (H18.out.mono B13.out.size)⟩

/-- Where it stops at once. -/
theorem star_out (a b : ByteArray) (w : World) (h1 : a.size ≤ 9223372036854775807) (h2 : b.size ≤ 9223372036854775807) (h : 40 < a.size ∨ 40 < b.size ∨ isText a = false ∨ isText b = false) (hT : Tabs w) :
    Calls Tryd.prog 4 #[.string a, .string b] w fun e w' => e = .returned (.bool true) ∧ Below w.heap.size w w' := by
  obtain ⟨p, hp⟩ : ∃ p, isText a = p := ⟨_, rfl⟩
  obtain ⟨q, hq⟩ : ∃ q, isText b = q := ⟨_, rfl⟩
  have CVa := Lib.hid (fun (W : World) (hW : Tabs W) => (show Calls Tryd.prog 12 #[.string a] W fun e w' => e = .returned (.tuple #[.int .i64 (place a : Int), .bool p]) ∧ Below W.heap.size W w' by rw [← hp]; exact rvalid_any a W h1 hW))
  have CVb := Lib.hid (fun (W : World) (hW : Tabs W) => (show Calls Tryd.prog 12 #[.string b] W fun e w' => e = .returned (.tuple #[.int .i64 (place b : Int), .bool q]) ∧ Below W.heap.size W w' by rw [← hq]; exact rvalid_any b W h2 hW))
  have HT := Lib.hid hT
  rw [hp, hq] at h
  clear hT h1 h2 hp hq
  by_cases k1 : 40 < a.size
  · have g1 : decide ((40 : Int) < (a.size : Int)) = true := decide_eq_true (by omega)
    clear k1 h
    go_enter Tryd.func4, Tryd.ntmps4
    go_wp2_with (first
      | (go_at_call 12; (with_reducible refine (CVa.out _ HT.out).mono ?_); rintro e w1 ⟨rfl, hb1⟩; have H1 := Lib.hid hb1; have T1 := Lib.hid (HT.out.below hb1); clear hb1 CVa)
      | (go_at_call 12; (with_reducible refine (CVb.out _ T1.out).mono ?_); rintro e w2 ⟨rfl, hb2⟩; have H2 := Lib.hid (H1.out.trans (hb2.mono H1.out.size)); clear hb2 CVb))
    go_ret
    exact ⟨rfl, H2.out⟩
  · have g1 : decide ((40 : Int) < (a.size : Int)) = false := decide_eq_false (by omega)
    by_cases k2 : 40 < b.size
    · have g2 : decide ((40 : Int) < (b.size : Int)) = true := decide_eq_true (by omega)
      clear k1 k2 h
      go_enter Tryd.func4, Tryd.ntmps4
      go_wp2_with (first
        | (go_at_call 12; (with_reducible refine (CVa.out _ HT.out).mono ?_); rintro e w1 ⟨rfl, hb1⟩; have H1 := Lib.hid hb1; have T1 := Lib.hid (HT.out.below hb1); clear hb1 CVa)
        | (go_at_call 12; (with_reducible refine (CVb.out _ T1.out).mono ?_); rintro e w2 ⟨rfl, hb2⟩; have H2 := Lib.hid (H1.out.trans (hb2.mono H1.out.size)); clear hb2 CVb))
      go_ret
      exact ⟨rfl, H2.out⟩
    · have g2 : decide ((40 : Int) < (b.size : Int)) = false := decide_eq_false (by omega)
      have h' : p = false ∨ (p = true ∧ q = false) := by
        rcases h with h | h | h | h
        · exact absurd h k1
        · exact absurd h k2
        · exact .inl h
        · cases p <;> simp [h]
      clear k1 k2 h
      rcases h' with rfl | ⟨rfl, rfl⟩
      all_goals
        go_enter Tryd.func4, Tryd.ntmps4
        go_wp2_with (first
          | (go_at_call 12; (with_reducible refine (CVa.out _ HT.out).mono ?_); rintro e w1 ⟨rfl, hb1⟩; have H1 := Lib.hid hb1; have T1 := Lib.hid (HT.out.below hb1); clear hb1 CVa)
          | (go_at_call 12; (with_reducible refine (CVb.out _ T1.out).mono ?_); rintro e w2 ⟨rfl, hb2⟩; have H2 := Lib.hid (H1.out.trans (hb2.mono H1.out.size)); clear hb2 CVb))
        go_ret
        exact ⟨rfl, H2.out⟩
theorem star_law (a b : ByteArray) (w : World) (h1 : a.size ≤ maxLen) (h2 : b.size ≤ maxLen) (hT : Tabs w) :
    Calls Tryd.prog 4 #[.string a, .string b] w fun e w' => e = .returned (.bool true) ∧ Below w.heap.size w w' := by
  unfold maxLen at h1 h2
  by_cases h : 40 < a.size ∨ 40 < b.size ∨ isText a = false ∨ isText b = false
  · exact star_out a b w h1 h2 h hT
  · exact star_in a b w (by omega) (by omega) (by cases hx : isText a <;> simp_all) (by cases hx : isText b <;> simp_all) hT
end Go.Proofs.YtpgmlbdfmcbgoaaDoor
