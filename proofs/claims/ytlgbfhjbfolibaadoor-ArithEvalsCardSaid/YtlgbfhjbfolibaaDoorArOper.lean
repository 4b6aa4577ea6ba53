/-
  Proved: the contract of a reckoner's operand. Conditions: it lies in memory; at most 10000 bytes are left.
-/
import Derived.Test.YtlgbfhjbfolibaaDoorArValues
import Derived.Test.YtlgbfhjbfolibaaDoorArClose
import Derived.Test.YtlgbfhjbfolibaaDoorArNext
import Derived.Test.YtlgbfhjbfolibaaDoorArName
namespace Go.Proofs.YtlgbfhjbfolibaaDoor
open Go Go.Shelf Go.RowKit ArMath GlyphMath

/-- How much more may be taken. -/
def Lim (s : St) : Prop := s.left.length + s.nums.length ≤ 10000 ∧ s.left.length + s.signs.length ≤ 10000
theorem num_I (l : B) : I64 (numM l).1 := by
  unfold numM
  split
  · exact zero_I
  · split
    · rename_i n h
      have := Lib.parseIntB_bounds h
      unfold I64
      simp at this
      omega
    · exact zero_I
theorem env_I : ∀ (vs : Vars) (n : B), I64 (envM vs n).1
  | [], _ => zero_I
  | (k, v) :: r, n => by
    unfold envM
    split
    · exact num_I v
    · exact env_I r n
section
variable {vs : Vars} {w : World} {X : Nat} {vv mm nn ss : Value} {s : St}
set_option maxRecDepth 8000 in
set_option maxHeartbeats 2000000 in
theorem operand_any (f : Nat) (hf : s.left.length < f) (hl : Lim s) (h : Rk w X vs vv mm nn ss s) (hX : 7 ≤ X) (hv : ∀ W, Below X w W → VarsAt W vv vs) (hg : GlobA w) :
    Calls Tryd.prog 23 #[.pointer (some ⟨X, 0, none⟩)] w fun e w' => e = .returned (.bool (operF vs f s).isSome) ∧ Below X w w' ∧ ∀ s', operF vs f s = some s' → ∃ mm' nn' ss', Rk w' X vs vv mm' nn' ss' s' := by
  obtain ⟨R, hR⟩ : ∃ R, operF vs f s = R := ⟨_, rfl⟩
  rw [hR]
  have HI := Lib.hid (show ∃ s mm nn ss, Rk w X vs vv mm nn ss s ∧ Below X w w ∧ operF vs f s = R ∧ s.left.length < f ∧ Lim s from ⟨s, mm, nn, ss, h, ⟨rfl, rfl, rfl, Nat.le_refl _, fun _ _ => rfl⟩, hR, hf, hl⟩)
  have HVA := Lib.hid hv
  have HGA := Lib.hid hg
  have HX := Lib.hid (And.intro hX h.lt)
  clear h hR hf hl hv hg hX
  go_enter Tryd.func23, Tryd.ntmps23
  go_wp2_with fail
  go_loopg [3] f (fun gf _ wx => Hid (∃ s mm nn ss, Rk wx X vs vv mm nn ss s ∧ Below X w wx ∧ operF vs gf s = R ∧ s.left.length < gf ∧ Lim s))
  case atStart => exact HI
  case round =>
    obtain ⟨s, mm, nn, ss, hk, hbw, hr, hlt, hlim⟩ := hrel.out
    obtain ⟨g', rfl⟩ : ∃ g', gk = g' + 1 := ⟨gk - 1, by omega⟩
    clear hrel HI
    have HK := Lib.hid hk
    have HBW := Lib.hid hbw
    have HLT := Lib.hid (And.intro hlt hlim)
    have HTK := Lib.hid (fun W (hW : Rk W X vs vv mm nn ss s) => token_any (by have := hlim.1; omega) hW)
    obtain ⟨t, ht⟩ : ∃ t, s.tok = t := ⟨_, rfl⟩
    have HT := Lib.hid ht
    rw [ht] at HTK
    unfold operF at hr
    rw [ht] at hr
    clear hk hbw hlt hlim ht
    obtain ⟨TT, hTT⟩ : ∃ T, tx t = T := ⟨_, rfl⟩
    have HTT := Lib.hid hTT
    have hl : TT.toList = t := by rw [← hTT, tx_toList]
    clear hTT
    have HNE := Lib.hid (show t ≠ [] → s.next.left.length < g' ∧ s.next.left.length + (s.nums.length + 1) ≤ 10000 ∧ s.next.left.length + (s.signs.length + 1) ≤ 10000 from fun h => by
      have h1 : (leftB s.left).length < s.left.length := tok_lt (by rw [show tokB s.left = t from HT.out]; exact h)
      have h2 := HLT.out
      unfold Lim at h2
      show (leftB s.left).length < g' ∧ (leftB s.left).length + _ ≤ _ ∧ (leftB s.left).length + _ ≤ _
      omega)
    have HTL := Lib.hid (show t.length ≤ 140737488355328 by
      have h1 := tok_len s.left
      have h2 := drop_le blaC s.left
      have h3 := HLT.out.2.1
      rw [show tokB s.left = t from HT.out] at h1
      unfold skipB at h1
      omega)
    by_cases h1 : t = [45] ∨ t = [33]
    · have HNX := Lib.hid (show (s.next.wait t 4).left.length < g' ∧ Lim (s.next.wait t 4) from by
        obtain ⟨a, b, c⟩ := HNE.out (by rcases h1 with rfl | rfl <;> simp)
        exact ⟨a, by show s.next.left.length + s.nums.length ≤ 10000; omega, by show s.next.left.length + (s.signs.length + 1) ≤ 10000; omega⟩)
      rw [if_pos h1] at hr
      have HR := Lib.hid hr
      clear hr
      rcases h1 with h1 | h1
      · have c1 : (TT.toList == [45]) = true := by rw [hl, h1]; rfl
        clear hl h1
        go_wp2_with (first
          | (go_at_call 24; (with_reducible refine (HTK.out _ HK.out).mono ?_); rintro e w1 ⟨rfl, hk1, hb1⟩; rw [HTT.out]; have HK1 := Lib.hid hk1; have HB1 := Lib.hid (HBW.out.trans hb1); clear hk1 hb1)
          | (go_at_call 35; (rw [← HTT.out]; refine (wait_any t 4 (by have := HLT.out.2.2; show s.signs.length ≤ 20000; omega) HK1.out).mono ?_); rintro e w2 ⟨rfl, ⟨ss2, hk2⟩, hb2⟩; have HK2 := Lib.hid hk2; have HB2 := Lib.hid (HB1.out.trans hb2); clear hk2 hb2))
        go_roundg g'
        case rel => exact Lib.hid ⟨_, _, _, _, HK2.out, HB2.out, HR.out, HNX.out.1, HNX.out.2⟩
        case measure => omega
      · have c1 : (TT.toList == [45]) = false := by rw [hl, h1]; rfl
        have c2 : (TT.toList == [33]) = true := by rw [hl, h1]; rfl
        clear hl h1
        go_wp2_with (first
          | (go_at_call 24; (with_reducible refine (HTK.out _ HK.out).mono ?_); rintro e w1 ⟨rfl, hk1, hb1⟩; rw [HTT.out]; have HK1 := Lib.hid hk1; have HB1 := Lib.hid (HBW.out.trans hb1); clear hk1 hb1)
          | (go_at_call 35; (rw [← HTT.out]; refine (wait_any t 4 (by have := HLT.out.2.2; show s.signs.length ≤ 20000; omega) HK1.out).mono ?_); rintro e w2 ⟨rfl, ⟨ss2, hk2⟩, hb2⟩; have HK2 := Lib.hid hk2; have HB2 := Lib.hid (HB1.out.trans hb2); clear hk2 hb2))
        go_roundg g'
        case rel => exact Lib.hid ⟨_, _, _, _, HK2.out, HB2.out, HR.out, HNX.out.1, HNX.out.2⟩
        case measure => omega
    rw [if_neg h1] at hr
    have c1 : (TT.toList == [45]) = false := by rw [hl]; simpa using fun h => h1 (.inl h)
    have c2 : (TT.toList == [33]) = false := by rw [hl]; simpa using fun h => h1 (.inr h)
    clear h1
    by_cases h2 : t = [40]
    · have c3 : (TT.toList == [40]) = true := by rw [hl, h2]; rfl
      have HNX := Lib.hid (show (s.next.wait t 0).left.length < g' ∧ Lim (s.next.wait t 0) from by
        obtain ⟨a, b, c⟩ := HNE.out (by rw [h2]; simp)
        exact ⟨a, by show s.next.left.length + s.nums.length ≤ 10000; omega, by show s.next.left.length + (s.signs.length + 1) ≤ 10000; omega⟩)
      rw [if_pos h2] at hr
      have HR := Lib.hid hr
      clear hr hl h2
      go_wp2_with (first
        | (go_at_call 24; (with_reducible refine (HTK.out _ HK.out).mono ?_); rintro e w1 ⟨rfl, hk1, hb1⟩; rw [HTT.out]; have HK1 := Lib.hid hk1; have HB1 := Lib.hid (HBW.out.trans hb1); clear hk1 hb1)
        | (go_at_call 35; (rw [← HTT.out]; refine (wait_any t 0 (by have := HLT.out.2.2; show s.signs.length ≤ 20000; omega) HK1.out).mono ?_); rintro e w2 ⟨rfl, ⟨ss2, hk2⟩, hb2⟩; have HK2 := Lib.hid hk2; have HB2 := Lib.hid (HB1.out.trans hb2); clear hk2 hb2))
      go_roundg g'
      case rel => exact Lib.hid ⟨_, _, _, _, HK2.out, HB2.out, HR.out, HNX.out.1, HNX.out.2⟩
      case measure => omega
    rw [if_neg h2] at hr
    have c3 : (TT.toList == [40]) = false := by rw [hl]; simpa using h2
    clear h2 hl
    cases h3 : digsB t with
    | true =>
      have HDG := Lib.hid h3
      rw [if_pos h3] at hr
      have HR := Lib.hid hr
      have HI64 := Lib.hid (num_I t)
      clear hr h3
      go_wp2_with (first
        | (go_at_call 24; (with_reducible refine (HTK.out _ HK.out).mono ?_); rintro e w1 ⟨rfl, hk1, hb1⟩; rw [HTT.out]; have HK1 := Lib.hid hk1; have HB1 := Lib.hid (HBW.out.trans hb1); clear hk1 hb1)
        | (go_at_call 36; (rw [← HTT.out]; refine (digits_any t _).mono ?_); rintro e w3 ⟨rfl, rfl⟩; rw [HTT.out, HDG.out])
        | (go_at_call 11; (rw [← HTT.out]; refine (num_any t HTL.out _ (HGA.out.from HX.out.1 HB1.out)).mono ?_); rintro e w4 ⟨rfl, hb4⟩; rw [HTT.out]; have HK4 := Lib.hid (HK1.out.new hb4); have HB4 := Lib.hid (HB1.out.trans (hb4.mono (by have := HK1.out.lt; omega))); clear hb4)
        | (go_at_call 37; (refine (put_any (numM t).1 (numM t).2 HI64.out (by have := HLT.out.2.1; show s.nums.length ≤ 20000; omega) HK4.out).mono ?_); rintro e w6 ⟨rfl, ⟨nn6, hk6⟩, hb6, -⟩; have HK6 := Lib.hid hk6; have HB6 := Lib.hid (HB4.out.trans hb6); clear hk6 hb6))
      go_ret
      exact ⟨ret_bool (by rw [← HR.out]; rfl), HB6.out, fun s' hs' => by rw [← HR.out] at hs'; cases hs'; exact ⟨_, _, _, HK6.out⟩⟩
    | false =>
      have HDG := Lib.hid h3
      rw [if_neg (by simp [h3])] at hr
      clear h3
      cases h4 : nameB t with
      | true =>
        have HNB := Lib.hid h4
        rw [if_pos h4] at hr
        have HR := Lib.hid hr
        have HI64 := Lib.hid (env_I vs t)
        clear hr h4
        go_wp2_with (first
          | (go_at_call 24; (with_reducible refine (HTK.out _ HK.out).mono ?_); rintro e w1 ⟨rfl, hk1, hb1⟩; rw [HTT.out]; have HK1 := Lib.hid hk1; have HB1 := Lib.hid (HBW.out.trans hb1); clear hk1 hb1)
          | (go_at_call 36; (rw [← HTT.out]; refine (digits_any t _).mono ?_); rintro e w3 ⟨rfl, rfl⟩; rw [HTT.out, HDG.out])
          | (go_at_call 38; (rw [← HTT.out]; refine (name_tx t _).mono ?_); rintro e w4 ⟨rfl, hb4⟩; rw [HTT.out, HNB.out]; have HK4 := Lib.hid (HK1.out.new hb4); have HB4 := Lib.hid (HB1.out.trans (hb4.mono (by have := HK1.out.lt; omega))); clear hb4)
          | (go_at_call 39; (rw [← HTT.out]; refine (of_any t HTL.out HK4.out (HVA.out _ HB4.out) (HGA.out.from HX.out.1 HB4.out)).mono ?_); rintro e w5 ⟨rfl, ⟨mm5, hk5⟩, hb5⟩; rw [HTT.out]; have HK5 := Lib.hid hk5; have HB5 := Lib.hid (HB4.out.trans hb5); clear hk5 hb5)
          | (go_at_call 37; (refine (put_any (envM vs t).1 (envM vs t).2 HI64.out (by have := HLT.out.2.1; show s.nums.length ≤ 20000; omega) HK5.out).mono ?_); rintro e w6 ⟨rfl, ⟨nn6, hk6⟩, hb6, -⟩; have HK6 := Lib.hid hk6; have HB6 := Lib.hid (HB5.out.trans hb6); clear hk6 hb6))
        go_ret
        exact ⟨ret_bool (by rw [← HR.out]; rfl), HB6.out, fun s' hs' => by rw [← HR.out] at hs'; cases hs'; exact ⟨_, _, _, HK6.out⟩⟩
      | false =>
        have HNB := Lib.hid h4
        rw [if_neg (by simp [h4])] at hr
        have HR := Lib.hid hr
        clear hr h4
        go_wp2_with (first
          | (go_at_call 24; (with_reducible refine (HTK.out _ HK.out).mono ?_); rintro e w1 ⟨rfl, hk1, hb1⟩; rw [HTT.out]; have HK1 := Lib.hid hk1; have HB1 := Lib.hid (HBW.out.trans hb1); clear hk1 hb1)
          | (go_at_call 36; (rw [← HTT.out]; refine (digits_any t _).mono ?_); rintro e w3 ⟨rfl, rfl⟩; rw [HTT.out, HDG.out])
          | (go_at_call 38; (rw [← HTT.out]; refine (name_tx t _).mono ?_); rintro e w4 ⟨rfl, hb4⟩; rw [HTT.out, HNB.out]; have HK4 := Lib.hid (HK1.out.new hb4); have HB4 := Lib.hid (HB1.out.trans (hb4.mono (by have := HK1.out.lt; omega))); clear hb4))
        go_ret
        exact ⟨ret_bool (by rw [← HR.out]; rfl), HB4.out, fun s' hs' => by rw [← HR.out] at hs'; cases hs'⟩
end
end Go.Proofs.YtlgbfhjbfolibaaDoor
