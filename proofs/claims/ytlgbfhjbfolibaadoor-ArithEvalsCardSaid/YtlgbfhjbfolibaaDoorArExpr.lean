/-
  Proved: the contract of a reckoner's expr. Conditions: it lies in memory; at most 10000 bytes are left.
-/
import Derived.Test.YtlgbfhjbfolibaaDoorArOper
namespace Go.Proofs.YtlgbfhjbfolibaaDoor
open Go Go.Shelf Go.RowKit ArMath

theorem oper_ok {vs : Vars} : ∀ (f : Nat) (s s' : St), operF vs f s = some s' → s'.left.length < s.left.length ∧ s'.nums.length = s.nums.length + 1 ∧ binN s'.signs = binN s.signs ∧ s'.left.length + s'.signs.length ≤ s.left.length + s.signs.length
  | 0, s, s', h => by simp [operF] at h
  | f + 1, s, s', h => by
    unfold operF at h
    have hlt : s.tok ≠ [] → s.next.left.length < s.left.length := fun h => tok_lt h
    split at h
    · rename_i h1
      obtain ⟨a, b, c, d⟩ := oper_ok f _ s' h
      have hn := hlt (by rcases h1 with h1 | h1 <;> rw [h1] <;> simp)
      have e1 : (s.next.wait s.tok 4).left = s.next.left := rfl
      have e2 : (s.next.wait s.tok 4).nums = s.nums := rfl
      have e3 : (s.next.wait s.tok 4).signs = (s.tok, 4) :: s.signs := rfl
      rw [e1] at a d
      rw [e2] at b
      rw [e3] at c d
      refine ⟨by omega, b, by rw [c]; simp [binN], ?_⟩
      simp only [List.length_cons] at d
      omega
    split at h
    · rename_i h1 h2
      obtain ⟨a, b, c, d⟩ := oper_ok f _ s' h
      have hn := hlt (by rw [h2]; simp)
      have e1 : (s.next.wait s.tok 0).left = s.next.left := rfl
      have e2 : (s.next.wait s.tok 0).nums = s.nums := rfl
      have e3 : (s.next.wait s.tok 0).signs = (s.tok, 0) :: s.signs := rfl
      rw [e1] at a d
      rw [e2] at b
      rw [e3] at c d
      refine ⟨by omega, b, by rw [c]; simp [binN], ?_⟩
      simp only [List.length_cons] at d
      omega
    split at h
    · rename_i h3
      cases h
      have hn := hlt (fun e => by rw [e] at h3; simp [digsB] at h3)
      have e3 : (s.next.put (numM s.tok)).signs = s.signs := rfl
      refine ⟨hn, by simp [St.put, St.next], rfl, ?_⟩
      rw [e3]
      show s.next.left.length + _ ≤ _
      omega
    split at h
    · rename_i h4
      cases h
      have hn := hlt (fun e => by rw [e] at h4; simp [nameB] at h4)
      have e3 : (s.next.put (envM vs s.tok)).signs = s.signs := rfl
      refine ⟨hn, by simp [St.put, St.next], rfl, ?_⟩
      rw [e3]
      show s.next.left.length + _ ≤ _
      omega
    · cases h
/-- Behind a token: how much more may be taken. -/
def LimT (t : B) (s : St) : Prop := s.left.length + s.nums.length ≤ 10000 ∧ s.left.length + s.signs.length ≤ 10000 ∧ (t ≠ [] → s.left.length + s.signs.length + 1 ≤ 10000)
theorem Lim.tok {s : St} (h : Lim s) : LimT s.tok s.next := by
  obtain ⟨h1, h2⟩ := h
  have h3 : s.next.left.length ≤ s.left.length := left_le s.left
  have h4 : s.tok ≠ [] → s.next.left.length < s.left.length := fun h => tok_lt h
  refine ⟨?_, ?_, fun h => ?_⟩
  · show s.next.left.length + s.nums.length ≤ _; omega
  · show s.next.left.length + s.signs.length ≤ _; omega
  · have := h4 h
    show s.next.left.length + s.signs.length + 1 ≤ _; omega
/-- Enough rounds are left. -/
def Fuel (f : Nat) (t : B) (s : St) : Prop := 1 ≤ f ∧ (t ≠ [] → s.left.length + 2 ≤ f)
theorem Fuel.tok {f : Nat} {s : St} (h1 : 1 ≤ f) (h : s.left.length + 1 ≤ f) : Fuel f s.tok s.next := ⟨h1, fun h2 => by
  have : s.next.left.length < s.left.length := tok_lt h2
  omega⟩

section
variable {vs : Vars} {w : World} {X : Nat} {vv mm nn ss : Value} {s : St}
theorem between_none (t : B) (h : lev t = 0) (p : Value) (w : World) :
    Calls Tryd.prog 27 #[p, .string (tx t)] w fun e w' => e = .returned (.bool false) ∧ w = w' := by
  have HV := Lib.hid (fun W => level_any (tx t) W)
  rw [tx_list, h] at HV
  generalize tx t = T at *
  clear h
  go_enter Tryd.func27, Tryd.ntmps27
  go_wp2_with (first
    | (go_at_call 47; (with_reducible refine (HV.out _).mono ?_); rintro e w1 ⟨rfl, rfl⟩))
  go_ret
  exact ⟨rfl, rfl⟩
/-- What is asked at the outer loop's head. -/
def OutR (vs : Vars) (w0 : World) (X : Nat) (vv : Value) (R : Option St) (k : Nat) (wx : World) : Prop :=
  ∃ s mm nn ss f1 f2, Rk wx X vs vv mm nn ss s ∧ Below X w0 wx ∧ (match operF vs f1 s with | none => none | some s2 => moreF vs f2 s2.tok s2.next) = R ∧ s.left.length < f1 ∧ s.left.length ≤ f2 ∧ binN s.signs ≤ s.nums.length ∧ Lim s ∧ s.left.length < k
/-- .. and at the inner one's. -/
def InR (vs : Vars) (w0 : World) (X : Nat) (vv : Value) (R : Option St) (k j : Nat) (t : B) (wx : World) : Prop :=
  ∃ s mm nn ss f, Rk wx X vs vv mm nn ss s ∧ Below X w0 wx ∧ moreF vs f t s = R ∧ Fuel f t s ∧ binN s.signs + 1 ≤ s.nums.length ∧ LimT t s ∧ s.left.length < k ∧ Fuel j t s
set_option maxRecDepth 8000 in
set_option maxHeartbeats 2000000 in
theorem expr_any (hl : Lim s) (hb : binN s.signs ≤ s.nums.length) (h : Rk w X vs vv mm nn ss s) (hX : 7 ≤ X) (hv : ∀ W, Below X w W → VarsAt W vv vs) (hg : GlobA w) :
    Calls Tryd.prog 14 #[.pointer (some ⟨X, 0, none⟩)] w fun e w' => e = .returned (.bool (exprF vs (s.left.length + 2) s).isSome) ∧ Below X w w' ∧ ∀ s', exprF vs (s.left.length + 2) s = some s' → ∃ mm' nn' ss', Rk w' X vs vv mm' nn' ss' s' := by
  obtain ⟨R, hR⟩ : ∃ R, exprF vs (s.left.length + 2) s = R := ⟨_, rfl⟩
  rw [hR]
  obtain ⟨K, hK⟩ : ∃ K, s.left.length + 1 = K := ⟨_, rfl⟩
  have HI := Lib.hid (show OutR vs w X vv R K w from ⟨s, mm, nn, ss, _, _, h, ⟨rfl, rfl, rfl, Nat.le_refl _, fun _ _ => rfl⟩, hR, by omega, by omega, hb, hl, by omega⟩)
  have HVA := Lib.hid hv
  have HGA := Lib.hid hg
  have HX := Lib.hid (And.intro hX h.lt)
  clear h hR hb hl hv hg hX hK
  go_enter Tryd.func14, Tryd.ntmps14
  go_wp2_with fail
  go_loopg [3] K (fun gf _ wx => Hid (OutR vs w X vv R gf wx))
  case atStart => exact HI
  case round =>
    obtain ⟨s, mm, nn, ss, f1, f2, hk, hbw, hr, hf1, hf2, hbn, hlim, hlt⟩ := hrel.out
    obtain ⟨g', rfl⟩ : ∃ g', gk = g' + 1 := ⟨gk - 1, by omega⟩
    clear hrel HI
    have HOP := Lib.hid (operand_any f1 hf1 hlim hk HX.out.1 (fun W hW => HVA.out W (hbw.trans hW)) (HGA.out.from HX.out.1 hbw))
    have HBW := Lib.hid hbw
    cases ho : operF vs f1 s with
    | none =>
      rw [ho] at hr HOP
      have HR := Lib.hid hr
      clear hk hbw hr hf1 hf2 hbn hlim hlt ho
      go_wp2_with (first
        | (go_at_call 23; (refine HOP.out.mono ?_); rintro e w1 ⟨rfl, hb1, -⟩; have HB1 := Lib.hid (HBW.out.trans hb1); clear hb1))
      go_ret
      exact ⟨ret_bool (by rw [← HR.out]; rfl), HB1.out, fun s' hs' => by rw [← HR.out] at hs'; cases hs'⟩
    | some s2 =>
      obtain ⟨q1, q2, q3, q4⟩ := oper_ok f1 s s2 ho
      rw [ho] at hr HOP
      simp only at hr
      have hlim2 : Lim s2 := ⟨by have := hlim.1; omega, by have := hlim.2; omega⟩
      have HIN := Lib.hid (show ∀ (W : World) (mm nn ss : Value), Rk W X vs vv mm nn ss s2.next → Below X w W → InR vs w X vv R g' (s2.left.length + 1) s2.tok W from fun W m1 n1 s1 hk hb => ⟨s2.next, m1, n1, s1, f2, hk, hb, hr, Fuel.tok (by omega) (by omega), by rw [show s2.next.signs = s2.signs from rfl, show s2.next.nums = s2.nums from rfl]; omega, hlim2.tok, by have : s2.next.left.length ≤ s2.left.length := left_le _; omega, Fuel.tok (by omega) (Nat.le_refl _)⟩)
      have HTK := Lib.hid (fun W m1 n1 s1 (hW : Rk W X vs vv m1 n1 s1 s2) => token_any (by have := hlim2.1; omega) hW)
      obtain ⟨t2, ht2⟩ : ∃ t, s2.tok = t := ⟨_, rfl⟩
      rw [ht2] at HIN HTK
      have HJ := Lib.hid (show s2.left.length + 1 = s2.left.length + 1 from rfl)
      obtain ⟨J, hJ⟩ : ∃ J, s2.left.length + 1 = J := ⟨_, rfl⟩
      rw [hJ] at HIN
      clear hk hbw hr hf1 hf2 hbn hlim hlt ho q1 q2 q3 q4 hlim2 ht2 hJ HJ
      go_wp2_with (first
        | (go_at_call 23; (refine HOP.out.mono ?_); rintro e w1 ⟨rfl, hb1, hk1⟩; obtain ⟨m1, n1, s1, hk1⟩ := hk1 s2 rfl; have HB1 := Lib.hid (HBW.out.trans hb1); have HK1 := Lib.hid hk1; clear hb1 hk1)
        | (go_at_call 24; (refine (HTK.out _ _ _ _ HK1.out).mono ?_); rintro e w2 ⟨rfl, hk2, hb2⟩; have HK2 := Lib.hid hk2; have HB2 := Lib.hid (HB1.out.trans hb2); clear hk2 hb2))
      go_loopg [3] J (fun gj s3 wx => ∃ t : B, s3 = .string (tx t) ∧ Hid (InR vs w X vv R g' gj t wx))
      case atStart => exact ⟨t2, rfl, Lib.hid (HIN.out _ _ _ _ HK2.out HB2.out)⟩
      case round =>
        obtain ⟨t, rfl, hrel⟩ := hrel
        obtain ⟨s, m3, n3, s3, f, hk, hbw, hr, hfu, hbn, hlim, hlt, hfj⟩ := hrel.out
        obtain ⟨f', rfl⟩ : ∃ f', f = f' + 1 := ⟨f - 1, by have := hfu.1; omega⟩
        obtain ⟨j', rfl⟩ : ∃ j', gk = j' + 1 := ⟨gk - 1, by have := hfj.1; omega⟩
        have HK3 := Lib.hid hk
        have HB3 := Lib.hid hbw
        have HBN := Lib.hid hbn
        have HNL := Lib.hid (show s.nums.length ≤ 20000 by have := hlim.1; omega)
        have HSL := Lib.hid (show s.signs.length ≤ 20000 by have := hlim.2.1; omega)
        obtain ⟨T, hT⟩ : ∃ T, tx t = T := ⟨_, rfl⟩
        have HT := Lib.hid hT
        have hl : T.toList = t := by rw [← hT, tx_toList]
        rw [hT]
        clear hT hrel HIN HTK HK1 HB1 HK2 HB2 HOP HBW hk hbw
        unfold moreF at hr
        by_cases h1 : t = [41]
        · have c1 : (T.toList == [41]) = true := by rw [hl, h1]; rfl
          have c2 : T.toList.isEmpty = false := by rw [hl, h1]; rfl
          rw [if_pos h1] at hr
          obtain ⟨S, hS⟩ : ∃ S, (s.reck 1).signs = S := ⟨_, rfl⟩
          have HCL := Lib.hid (fun W m n q (hW : Rk W X vs vv m n q s) => close_any HBN.out HNL.out hW)
          rw [hS] at hr
          simp only [hS] at HCL
          cases S with
          | nil =>
            have HR := Lib.hid hr
            have HBT := Lib.hid (fun p W => between_none t (by rw [h1]; rfl) p W)
            rw [HT.out] at HBT
            clear hr hl h1 hfu hbn hlim hlt hfj hS
            go_wp2_with (first
              | (go_at_call 25; (refine (HCL.out _ _ _ _ HK3.out).mono ?_); rintro e w3 ⟨rfl, hb3, -⟩; have HB4 := Lib.hid (HB3.out.trans hb3); clear hb3)
              | (go_at_call 27; (with_reducible refine (HBT.out _ _).mono ?_); rintro e w4 ⟨rfl, rfl⟩))
            go_ret
            exact ⟨ret_bool (by rw [← HR.out]; rfl), HB4.out, fun s' hs' => by rw [← HR.out] at hs'; cases hs'⟩
          | cons tk S =>
            obtain ⟨ta, ka⟩ := tk
            simp only at hr
            obtain ⟨s5, hs5⟩ : ∃ s5 : St, { s.reck 1 with signs := S } = s5 := ⟨_, rfl⟩
            rw [hs5] at hr
            have HCL2 := Lib.hid (show ∀ (W : World) (m n q : Value), Rk W X vs vv m n q s → Calls Tryd.prog 25 #[.pointer (some ⟨X, 0, none⟩)] W fun e w' => e = .returned (.bool true) ∧ Below X W w' ∧ ∃ nn' ss', Rk w' X vs vv m nn' ss' s5 from fun W m n q hW => (HCL.out W m n q hW).mono fun e w' h => ⟨h.1, h.2.1, hs5 ▸ h.2.2 ta ka S rfl⟩)
            have h5l : s5.left = s.left := by rw [← hs5]; rfl
            have h5L := congrArg List.length h5l
            have h5n : s5.nums.length ≤ s.nums.length := by rw [← hs5]; exact (reck_len 1 s.signs s.nums s.bad).2
            have h5s : s5.signs.length + 1 ≤ s.signs.length := by
              have h6 : (s.reck 1).signs.length ≤ s.signs.length := (reck_len 1 s.signs s.nums s.bad).1
              rw [hS] at h6
              rw [← hs5]
              simpa using h6
            have h5b : binN s5.signs + 1 ≤ s5.nums.length := by
              have h6 : binN (s.reck 1).signs + 1 ≤ (s.reck 1).nums.length := reck_bin 1 (by decide) s.signs s.nums s.bad hbn
              rw [hS] at h6
              rw [← hs5]
              show binN S + 1 ≤ (s.reck 1).nums.length
              have h7 : binN S ≤ binN ((ta, ka) :: S) := Nat.le_add_left _ _
              omega
            have hlim5 : Lim s5 := ⟨by rw [h5l]; have := hlim.1; omega, by rw [h5l]; have := hlim.2.1; omega⟩
            have hf5 := hfu.2 (by rw [h1]; simp)
            have hj5 := hfj.2 (by rw [h1]; simp)
            have HTK := Lib.hid (fun W m1 n1 s1 (hW : Rk W X vs vv m1 n1 s1 s5) => token_any (by have := hlim5.1; omega) hW)
            have HIN := Lib.hid (show ∀ (W : World) (mm nn ss : Value), Rk W X vs vv mm nn ss s5.next → Below X w W → InR vs w X vv R g' j' s5.tok W from fun W m1 n1 s1 hk hb => ⟨s5.next, m1, n1, s1, f', hk, hb, hr, Fuel.tok (by omega) (by omega), h5b, hlim5.tok, by have : s5.next.left.length ≤ s5.left.length := left_le _; omega, Fuel.tok (by omega) (by omega)⟩)
            clear hr hl h1 hfu hbn hlim hlt hfj hS hs5 h5l h5L h5n h5s h5b hlim5 hf5 hj5
            go_wp2_with (first
              | (go_at_call 25; (refine (HCL2.out _ _ _ _ HK3.out).mono ?_); rintro e w3 ⟨rfl, hb3, m5, n5, hk5⟩; have HB4 := Lib.hid (HB3.out.trans hb3); have HK4 := Lib.hid hk5; clear hb3 hk5)
              | (go_at_call 24; (refine (HTK.out _ _ _ _ HK4.out).mono ?_); rintro e w5 ⟨rfl, hk5, hb5⟩; have HK5 := Lib.hid hk5; have HB5 := Lib.hid (HB4.out.trans hb5); clear hk5 hb5))
            go_roundg j'
            case rel => exact ⟨s5.tok, rfl, Lib.hid (HIN.out _ _ _ _ HK5.out HB5.out)⟩
            case measure => omega
        · rw [if_neg h1] at hr
          have c1 : (T.toList == [41]) = false := by rw [hl]; simpa using h1
          clear h1
          by_cases h2 : t = []
          · have c2 : T.toList.isEmpty = true := by rw [hl, h2]; rfl
            rw [if_pos h2] at hr
            obtain ⟨M, hM⟩ : ∃ M, (s.reck 1).signs.length = M := ⟨_, rfl⟩
            have HM := Lib.hid hM
            have hR : R = if M = 0 then some (s.reck 1) else none := by
              rw [← hr, ← hM]
              by_cases h : (s.reck 1).signs = []
              · rw [if_pos h, if_pos (by rw [h]; rfl)]
              · rw [if_neg h, if_neg (fun e => h (List.eq_nil_of_length_eq_zero e))]
            clear hr hl h2 hfu hbn hlim hlt hfj hM
            by_cases hm : M = 0
            · subst hm
              rw [if_pos rfl] at hR
              have HR := Lib.hid hR
              clear hR
              go_wp2_with (first
                | (go_at_call 26; (refine (reckon_any 1 (by decide) (by decide) HBN.out HNL.out HK3.out).mono ?_); rintro e w4 ⟨rfl, ⟨n4, s4, hk4⟩, hb4⟩; obtain ⟨p4, c4, rfl⟩ := signs_len hk4; obtain ⟨-, -, -, -, d4, -, -⟩ := ar_cell hk4.blk; rw [HM.out] at d4; have HB4 := Lib.hid (HB3.out.trans hb4); have HK4 := Lib.hid hk4; clear hk4 hb4))
              go_ret
              exact ⟨ret_bool (by rw [HR.out]; rfl), HB4.out, fun s' hs' => by rw [HR.out] at hs'; cases hs'; exact ⟨_, _, _, HK4.out⟩⟩
            · rw [if_neg hm] at hR
              have HR := Lib.hid hR
              have hm2 : ((M : Int) == 0) = false := by rw [int_eq0]; simpa using hm
              clear hR hm
              go_wp2_with (first
                | (go_at_call 26; (refine (reckon_any 1 (by decide) (by decide) HBN.out HNL.out HK3.out).mono ?_); rintro e w4 ⟨rfl, ⟨n4, s4, hk4⟩, hb4⟩; obtain ⟨p4, c4, rfl⟩ := signs_len hk4; obtain ⟨-, -, -, -, d4, -, -⟩ := ar_cell hk4.blk; rw [HM.out] at d4; have HB4 := Lib.hid (HB3.out.trans hb4); have HK4 := Lib.hid hk4; clear hk4 hb4))
              go_ret
              exact ⟨ret_bool (by rw [HR.out]; rfl), HB4.out, fun s' hs' => by rw [HR.out] at hs'; cases hs'⟩
          · rw [if_neg h2] at hr
            have c2 : T.toList.isEmpty = false := by rw [hl]; cases t with | nil => exact absurd rfl h2 | cons _ _ => rfl
            by_cases h0 : lev t = 0
            · rw [if_pos h0] at hr
              have HR := Lib.hid hr
              have HBT := Lib.hid (fun p W => between_none t h0 p W)
              rw [HT.out] at HBT
              clear hr hl h2 h0 hfu hbn hlim hlt hfj
              go_wp2_with (first
                | (go_at_call 27; (with_reducible refine (HBT.out _ _).mono ?_); rintro e w4 ⟨rfl, rfl⟩))
              go_ret
              exact ⟨ret_bool (by rw [← HR.out]; rfl), HB3.out, fun s' hs' => by rw [← HR.out] at hs'; cases hs'⟩
            · rw [if_neg h0] at hr
              have HBE := Lib.hid (fun W m n q (hW : Rk W X vs vv m n q s) => between_any t HBN.out HNL.out HSL.out hW)
              rw [HT.out, decide_eq_true h0] at HBE
              have h00 := h0
              by_cases h6 : lastL (s.reck (max (lev t) 2)).signs = lev t
              · rw [if_pos h6] at hr
                have HR := Lib.hid hr
                rw [decide_eq_false (fun h => h h6)] at HBE
                clear hr hl h2 h0 h00 h6 hfu hbn hlim hlt hfj
                go_wp2_with (first
                  | (go_at_call 27; (refine (HBE.out _ _ _ _ HK3.out).mono ?_); rintro e w4 ⟨rfl, hb4, -⟩; have HB4 := Lib.hid (HB3.out.trans hb4); clear hb4))
                go_ret
                exact ⟨ret_bool (by rw [← HR.out]; rfl), HB4.out, fun s' hs' => by rw [← HR.out] at hs'; cases hs'⟩
              · rw [if_neg h6] at hr
                rw [decide_eq_true h6] at HBE
                obtain ⟨s5, hs5⟩ : ∃ s5 : St, (s.reck (max (lev t) 2)).wait t (lev t) = s5 := ⟨_, rfl⟩
                rw [hs5] at hr
                have HBE2 := Lib.hid (show ∀ (W : World) (m n q : Value), Rk W X vs vv m n q s → Calls Tryd.prog 27 #[.pointer (some ⟨X, 0, none⟩), .string T] W fun e w' => e = .returned (.bool true) ∧ Below X W w' ∧ ∃ nn' ss', Rk w' X vs vv m nn' ss' s5 from fun W m n q hW => (HBE.out W m n q hW).mono fun e w' h => ⟨h.1, h.2.1, hs5 ▸ h.2.2 h0 h6⟩)
                have h5l : s5.left = s.left := by rw [← hs5]; rfl
                have h5n : s5.nums.length ≤ s.nums.length := by rw [← hs5]; exact (reck_len _ s.signs s.nums s.bad).2
                have h5s : s5.signs.length ≤ s.signs.length + 1 := by
                  have h6 : (s.reck (max (lev t) 2)).signs.length ≤ s.signs.length := (reck_len _ s.signs s.nums s.bad).1
                  rw [← hs5]
                  show (s.reck (max (lev t) 2)).signs.length + 1 ≤ _
                  omega
                have h5b : binN s5.signs ≤ s5.nums.length := by
                  have h6 : binN (s.reck (max (lev t) 2)).signs + 1 ≤ (s.reck (max (lev t) 2)).nums.length := reck_bin _ (by omega) s.signs s.nums s.bad hbn
                  rw [← hs5]
                  show binN ((t, lev t) :: (s.reck (max (lev t) 2)).signs) ≤ (s.reck (max (lev t) 2)).nums.length
                  show (if lev t = 4 ∨ lev t = 0 then 0 else 1) + binN (s.reck (max (lev t) 2)).signs ≤ _
                  split <;> omega
                have hlim5 : Lim s5 := ⟨by rw [h5l]; have := hlim.1; omega, by rw [h5l]; have := hlim.2.2 h2; omega⟩
                have hf5 := hfu.2 h2
                have HOU := Lib.hid (show ∀ (W : World) (mm nn ss : Value), Rk W X vs vv mm nn ss s5 → Below X w W → OutR vs w X vv R g' W from fun W m1 n1 s1 hk hb => ⟨s5, m1, n1, s1, f' + 1, f', hk, hb, hr, by rw [h5l]; omega, by rw [h5l]; omega, h5b, hlim5, by rw [h5l]; omega⟩)
                clear hr hl h2 h0 h00 h6 hfu hbn hlim hlt hfj hs5 h5l h5n h5s h5b hlim5 hf5
                go_wp2_with (first
                  | (go_at_call 27; (refine (HBE2.out _ _ _ _ HK3.out).mono ?_); rintro e w4 ⟨rfl, hb4, n5, q5, hk5⟩; have HB4 := Lib.hid (HB3.out.trans hb4); have HK4 := Lib.hid hk5; clear hb4 hk5))
                go_roundg g'
                case rel => exact Lib.hid (HOU.out _ _ _ _ HK4.out HB4.out)
                case measure => omega
end
end Go.Proofs.YtlgbfhjbfolibaaDoor
