/-
  Proved: the walk of the law GlobSelf: it answers true and changes nothing that was there. Conditions: the library's tables lie as they should; the texts' lengths are ints.
-/
import Derived.Test.YtpgmlbdfmcbgoaaDoorGlText
import Derived.Test.YtpgmlbdfmcbgoaaDoorGlRef
import Derived.Deep.Cut
namespace Go.Proofs.YtpgmlbdfmcbgoaaDoor
open Go Go.RowKit GlyphMath GlMath

theorem chM_range (q : Bool) {l : List Nat} (hl : ∀ c ∈ l, OkL c) : ∀ c ∈ chM q l, -2147483648 ≤ c.1 ∧ c.1 ≤ 2147483647 := fun c hc => by
  obtain ⟨x, hx, rfl⟩ := List.mem_map.1 hc
  have := (hl x hx).1
  constructor <;> (simp only; omega)
set_option maxHeartbeats 4000000 in
set_option maxRecDepth 100000 in
theorem self_in (s t : ByteArray) (w : World) (h1 : s.size ≤ 60) (h2 : t.size ≤ 60) (hT : Tabs w) :
    Calls Tryd.prog 3 #[.string s, .string t] w fun e w' => e = .returned (.bool true) ∧ Below w.heap.size w w' := by
  have hls := letters_length s
  have hlt := letters_length t
  have m1 : globM (chM true (letters s)) (toI (letters s)) = true := by rw [glob_self _ _ (letters_ok s)]; simp
  have m2 := glob_self _ (letters t) (letters_ok s)
  have m3 := text_same _ _ (letters_ok s) (letters_ok t)
  have m4 := has_self (letters s)
  have HC1 := Lib.hid (fun W => chars_any s true W (by omega))
  have HC2 := Lib.hid (fun W hW => rchars_any s true W (by omega) hW)
  have HC8 := Lib.hid (fun W => chars_any t true W (by omega))
  obtain ⟨ns, hns⟩ : ∃ n, (letters s).length = n := ⟨_, rfl⟩
  obtain ⟨nt, hnt⟩ : ∃ n, (letters t).length = n := ⟨_, rfl⟩
  have r1 := chM_range true (letters_ok s)
  have r2 := chM_range true (letters_ok t)
  rw [hns] at HC1 hls
  rw [hnt] at HC8 hlt
  obtain ⟨D, hD⟩ : ∃ D, decide (letters s = letters t) = D := ⟨_, rfl⟩
  rw [hD] at m2 m3
  obtain ⟨A, hA⟩ : ∃ A, chM true (letters s) = A := ⟨_, rfl⟩
  obtain ⟨B, hB⟩ : ∃ B, chM true (letters t) = B := ⟨_, rfl⟩
  have hAl : A.length ≤ 60 := by rw [← hA, chM_length, hns]; omega
  have hBl : B.length ≤ 60 := by rw [← hB, chM_length, hnt]; omega
  rw [hA] at HC1 HC2 m1 m2 m3 m4 r1
  rw [hB] at HC8 m3 r2
  have HX1 := Lib.hid (fun (v : Value) (W : World) (h : ChAt W v A) => text_any A v W h (by omega) r1)
  have HX8 := Lib.hid (fun (v : Value) (W : World) (h : ChAt W v B) => text_any B v W h (by omega) r2)
  obtain ⟨TS, hTS⟩ : ∃ T : ByteArray, ⟨(textB A).toArray⟩ = T := ⟨_, rfl⟩
  obtain ⟨TT, hTT⟩ : ∃ T : ByteArray, ⟨(textB B).toArray⟩ = T := ⟨_, rfl⟩
  rw [hTS] at HX1 m3
  rw [hTT] at HX8 m3
  have HM1 := Lib.hid (fun (v : Value) (W : World) (h : ChAt W v A) => match_D A v s true W h (by omega) (by omega) m1)
  have HM2 := Lib.hid (fun (v : Value) (W : World) (h : ChAt W v A) => match_D A v t D W h (by omega) (by omega) m2)
  have HH := Lib.hid (fun (v : Value) (W : World) (h : ChAt W v A) => (show Calls Tryd.prog 9 #[v] W fun e w' => e = .returned (.bool false) ∧ Below W.heap.size W w' from by rw [← m4]; exact has_any A v W h))
  have HS := Lib.hid (fun (v u : Value) (W : World) (h : ChAt W v A) (h' : ChAt W u A) => rsame_any A v u W h h')
  have g1 : decide ((60 : Int) < (s.size : Int)) = false := decide_eq_false (by omega)
  have g2 : decide ((60 : Int) < (t.size : Int)) = false := decide_eq_false (by omega)
  have HT := Lib.hid hT
  have HE := Lib.hid m3
  clear hT h1 h2 hls hlt m1 m2 m3 m4 hns hnt hD hA hB hAl hBl hTS hTT r1 r2
  go_enter Tryd.func3, Tryd.ntmps3
  go_upto_region 4 with (first
    | (go_at_call 5; (with_reducible refine (HC1.out w).mono ?_); rintro e w1 ⟨g, c, rfl, hr, hb⟩; have A1 := Lib.hid hr.at_; have H1 := Lib.hid hb; have T1 := Lib.hid (HT.out.below hb); clear hr hb))
  clear g1 g2
  have he := HE.out
  go_wp2_with (first
    | (go_at_call 7; (with_reducible refine (HC2.out w1 T1.out).mono ?_); rintro e w2 ⟨v2, rfl, hr, hb⟩; have A2 := Lib.hid hr; have A12 := Lib.hid (A1.out.below hb); have H2 := Lib.hid (show Below w1.heap.size w1 w2 from hb); clear hr hb)
    | (go_at_call 6; (with_reducible refine (HS.out _ _ w2 A12.out A2.out).mono ?_); rintro e w3 ⟨rfl, hb⟩; have H3 := Lib.hid (H2.out.trans (hb.mono H2.out.size)); clear hb)
    | (go_at_call 8; (with_reducible refine (HM1.out _ w3 (A1.out.below H3.out)).mono ?_); rintro e w4 ⟨rfl, hb⟩; have H4 := Lib.hid (H3.out.trans (hb.mono H3.out.size)); clear hb)
    | (go_at_call 9; (with_reducible refine (HH.out _ w4 (A1.out.below H4.out)).mono ?_); rintro e w5 ⟨rfl, hb⟩; have H5 := Lib.hid (H4.out.trans (hb.mono H4.out.size)); clear hb)
    | (go_at_call 8; (with_reducible refine (HM2.out _ w5 (A1.out.below H5.out)).mono ?_); rintro e w6 ⟨rfl, hb⟩; have H6 := Lib.hid (H5.out.trans (hb.mono H5.out.size)); clear hb)
    | (go_at_call 10; (with_reducible refine (HX1.out _ w6 (A1.out.below H6.out)).mono ?_); rintro e w7 ⟨rfl, hb⟩; have H7 := Lib.hid (H6.out.trans (hb.mono H6.out.size)); clear hb)
    | (go_at_call 5; (with_reducible refine (HC8.out w7).mono ?_); rintro e w8 ⟨g8, c8, rfl, hr, hb⟩; have A8 := Lib.hid hr.at_; have H8 := Lib.hid (H7.out.trans (hb.mono H7.out.size)); clear hr hb)
    | (go_at_call 10; (with_reducible refine (HX8.out _ w8 A8.out).mono ?_); rintro e w9 ⟨rfl, hb⟩; have H9 := Lib.hid (H8.out.trans (hb.mono H8.out.size)); clear hb)
    | (go_at_call 11; (with_reducible refine (known_any _).mono ?_); rintro e w10 ⟨rfl, hb⟩; have H10 := Lib.hid (H9.out.trans (hb.mono H9.out.size)); clear hb))
  go_ret
  exact ⟨ret_bool (by simp), H1.out.trans (H10.out.mono H1.out.size)⟩
theorem self_out (s t : ByteArray) (w : World) (h : 60 < s.size ∨ 60 < t.size) :
    Calls Tryd.prog 3 #[.string s, .string t] w fun e w' => e = .returned (.bool true) ∧ Below w.heap.size w w' := by
  have HB := Lib.hid (Below.refl w.heap.size w)
  by_cases k1 : 60 < s.size
  · have g1 : decide ((60 : Int) < (s.size : Int)) = true := decide_eq_true (by omega)
    clear k1 h
    go_enter Tryd.func3, Tryd.ntmps3
    go_wp2_with fail
    go_ret
    exact ⟨rfl, HB.out⟩
  · have g1 : decide ((60 : Int) < (s.size : Int)) = false := decide_eq_false (by omega)
    have g2 : decide ((60 : Int) < (t.size : Int)) = true := decide_eq_true (by omega)
    clear k1 h
    go_enter Tryd.func3, Tryd.ntmps3
    go_wp2_with fail
    go_ret
    exact ⟨rfl, HB.out⟩
theorem self_law (s t : ByteArray) (w : World) (hT : Tabs w) :
    Calls Tryd.prog 3 #[.string s, .string t] w fun e w' => e = .returned (.bool true) ∧ Below w.heap.size w w' := by
  by_cases h : 60 < s.size ∨ 60 < t.size
  · exact self_out s t w h
  · exact self_in s t w (by omega) (by omega) hT
end Go.Proofs.YtpgmlbdfmcbgoaaDoor
