/-
  Proved: the statements' own unary, where a name is ahead, or nothing that is an operand, or it is no expr already. Conditions: the reckoner and its bindings lie in memory.
-/
import Derived.Test.YtlgbfhjbfolibaaDoorArUnary
import Derived.Test.YtlgbfhjbfolibaaDoorArName
import Derived.Deep.RegionHeld3
namespace Go.Proofs.YtlgbfhjbfolibaaDoor
open Go Go.RowKit ArMath GlyphMath

theorem rmoreC (c : UInt8) (w : World) : Calls Tryd.prog 72 #[.int .i32 (c.toNat : Int)] w fun e w' => e = .returned (.bool (morC c)) ∧ w = w' := by
  rw [morC_R]; exact rmore_any _ w
section
variable {w : World} {X : Nat} {l r q : B} {vv : Value} {f m : Bool} {vs : Vars} {n : Nat}
theorem rf_at {p : B} {j : Nat} (h : Rf w X l vv p f m) (hd : l.drop j = p) (hj : j ≤ l.length) : RfB w X (tx l) (j : Int) vv f m := by
  obtain ⟨i, hB, hi, hil⟩ := h
  have h1 := congrArg List.length hd
  have h2 := congrArg List.length hi
  rw [List.length_drop] at h1 h2
  obtain rfl : i = j := by omega
  exact hB
theorem rest_says (hK : ∀ c q, skipB r = c :: q → digC c = false ∧ c ≠ 45 ∧ c ≠ 33 ∧ c ≠ 40) :
    (nameB ((skipB r).take ((skipB r).length - ((skipB r).dropWhile morC).length)) = true → UOk vs r m ((skipB r).dropWhile morC) (m || !(envM vs ((skipB r).take ((skipB r).length - ((skipB r).dropWhile morC).length))).2) (envM vs ((skipB r).take ((skipB r).length - ((skipB r).dropWhile morC).length))).1)
    ∧ (nameB ((skipB r).take ((skipB r).length - ((skipB r).dropWhile morC).length)) = false → UNo vs r m) := by
  cases hk : skipB r with
  | nil => exact ⟨fun h => (by cases h), fun _ => none_no hk⟩
  | cons c q =>
    obtain ⟨hd, h1, h2, h3⟩ := hK c q hk
    cases hf : firC c with
    | true =>
      obtain ⟨e1, e2, e3⟩ := name_ok (vs := vs) (m := m) hk hd hf
      rw [← hk, ← e1]
      exact ⟨e2, e3⟩
    | false =>
      have hm : morC c = false := by unfold morC; rw [hf, hd]; rfl
      rw [List.dropWhile_cons, if_neg (by rw [hm]; simp), Nat.sub_self, List.take_zero]
      exact ⟨fun h => (by cases h), fun _ => odd_no hk hd hf h1 h2 h3⟩
set_option maxRecDepth 100000 in
set_option maxHeartbeats 4000000 in
theorem unary_rest (hl : l.length ≤ 2147483648) (he : Env w X vv vs) (h : Rf w X l vv r f m) (hK : f = false → ∀ c q, skipB r = c :: q → digC c = false ∧ c ≠ 45 ∧ c ≠ 33 ∧ c ≠ 40) :
    Calls Tryd.prog 64 #[.pointer (some ⟨X, 0, none⟩)] w fun e w' => Res w X l vv r f (UOk vs r m) (UNo vs r m) e w' := by
  have p1 : ∀ (t : UInt8) (x : B), skipB x = skipB r → (t = 45 ∨ t = 33 ∨ t = 40) → preB f [t] x = false := by
    intro t x hx ht
    unfold preB
    cases f with
    | true => rfl
    | false =>
      rw [hx]
      cases hk : skipB r with
      | nil => rfl
      | cons c q =>
        obtain ⟨hd, h1, h2, h3⟩ := hK rfl c q hk
        have h9 : t ≠ c := by rcases ht with rfl | rfl | rfl <;> intro e <;> subst e <;> contradiction
        have h8 : (t == c) = false := by simpa using h9
        show (!false && (t == c && _)) = false
        rw [h8]; rfl
  have h1 := reat_no [45] (by decide) hl (p1 45 r rfl (by simp)) h
  have h2 := fun (W : World) (hr : Rf W X l vv (skipB r) f m) => reat_no [33] (by decide) hl (p1 33 _ (skip_skip r) (by simp)) hr
  have h3 := fun (W : World) (hr : Rf W X l vv (skipB r) f m) => reat_no [40] (by decide) hl (p1 40 _ (skip_skip r) (by simp)) hr
  have h4 := fun (W : World) (hr : Rf W X l vv (skipB r) f m) => rskip_any hl hr
  have hCn : ¬ (48 ≤ nextB f (skipB r) ∧ nextB f (skipB r) ≤ 57) := by
    unfold nextB
    cases f with
    | true => simp
    | false =>
      rw [skip_skip]
      cases hk : skipB r with
      | nil => simp
      | cons c q =>
        have := (hK rfl c q hk).1
        simp only [Bool.false_eq_true, if_false]
        intro e
        rw [show digC c = true by simpa [digC] using e] at this
        cases this
  have hU := fun (hf : f = false) => rest_says (vs := vs) (m := m) (hK hf)
  have hLen := skip_len r
  simp only [skip_skip] at h2 h3 h4
  have hrl : r.length ≤ l.length := by obtain ⟨i, -, h5, -⟩ := h; rw [← h5, List.length_drop]; omega
  obtain ⟨K, hKK⟩ : ∃ K, skipB r = K := ⟨_, rfl⟩
  rw [hKK] at h1 h2 h3 h4 hLen hU hCn
  obtain ⟨D, hDD⟩ : ∃ D, K.dropWhile morC = D := ⟨_, rfl⟩
  rw [hDD] at hU
  obtain ⟨T, hTT⟩ : ∃ T, K.take (K.length - D.length) = T := ⟨_, rfl⟩
  rw [hTT] at hU
  rw [tx45] at h1
  rw [tx33] at h2
  rw [tx40] at h3
  have hTl : T.length ≤ 2147483648 := by
    rw [← hTT, List.length_take]; omega
  obtain ⟨C, hC⟩ : ∃ C, nextB f K = C := ⟨_, rfl⟩
  rw [hC] at h4 hCn
  have H1 := Lib.hid h1
  have H2 := Lib.hid h2
  have H3 := Lib.hid h3
  have H4 := Lib.hid h4
  obtain ⟨nb, hnb⟩ : ∃ nb, nameB T = nb := ⟨_, rfl⟩
  rw [hnb] at hU
  have HNM := Lib.hid (fun (V : World) (hV : Below X w V) => (by
    have := rname_any (tx T) V (by rw [tx_size]; omega) (he V hV).2
    rwa [name_bytes, hnb] at this : Calls Tryd.prog 73 #[.string (tx T)] V fun e w' => e = .returned (.bool nb) ∧ Below V.heap.size V w'))
  have HVL := Lib.hid (fun (V : World) (hV : Below X w V) (p : B) (hp : Rf V X l vv p f m) => rvalue_any T (he V hV).1 hp)
  have HI := Lib.hid (env_I vs T)
  have HU := Lib.hid hU
  have HT := Lib.hid (And.intro hTT (And.intro hDD hLen))
  have HS := Lib.hid hl
  have HM := Lib.hid (fun c W => rmoreC c W)
  have hc3 : (decide ((48 : Int) ≤ (C : Int)) = false) ∨ (decide ((48 : Int) ≤ (C : Int)) = true ∧ decide ((C : Int) ≤ (57 : Int)) = false) := by
    by_cases h48 : 48 ≤ C
    · right; exact ⟨by simp; omega, by simp; omega⟩
    · left; simp; omega
  clear h1 h2 h3 h4 hl h hK hKK hU hLen hTT hDD hTl p1 hC hnb he hrl hCn
  obtain ⟨CI, hCI⟩ : ∃ c : Int, (C : Int) = c := ⟨_, rfl⟩
  rw [hCI] at H4 hc3
  clear hCI
  go_enter Tryd.func64, Tryd.ntmps64
  go_wp2_with (first
    | (go_at_call 29; (with_reducible refine H1.out.mono ?_); rintro e w1 ⟨rfl, hq1, hb1⟩; have HQ1 := Lib.hid hq1; have HB1 := Lib.hid hb1; clear hq1 hb1)
    | (go_at_call 29; (with_reducible refine (H2.out _ HQ1.out).mono ?_); rintro e w2 ⟨rfl, hq2, hb2⟩; have HQ2 := Lib.hid hq2; have HB2 := Lib.hid (HB1.out.trans hb2); clear hq2 hb2)
    | (go_at_call 29; (with_reducible refine (H3.out _ HQ2.out).mono ?_); rintro e w3 ⟨rfl, hq3, hb3⟩; have HQ3 := Lib.hid hq3; have HB3 := Lib.hid (HB2.out.trans hb3); clear hq3 hb3)
    | (go_at_call 17; (with_reducible refine (H4.out _ HQ3.out).mono ?_); rintro e w4 ⟨rfl, hq4, hb4⟩; obtain ⟨i, hB, hd, hi⟩ := hq4; obtain ⟨-, c1, -, -, -, -⟩ := rf_cell hB; have HQ4 := Lib.hid (And.intro hB (And.intro hd hi)); have HB4 := Lib.hid (HB3.out.trans hb4); clear hB hd hi hb4; rcases hc3 with z1 | ⟨z1, z2⟩))
  all_goals
    go_loopg [] (K.length) (fun gf wx => Hid (∃ p, Rf wx X l vv p f m ∧ Below X w wx ∧ p.dropWhile morC = D ∧ p.length ≤ gf ∧ p.length ≤ K.length))
    case atStart => exact Lib.hid ⟨K, ⟨i, HQ4.out⟩, HB4.out, HT.out.2.1, Nat.le_refl _, Nat.le_refl _⟩
    case round =>
      obtain ⟨p, hq, hb, hs, hg, hpk⟩ := hrel.out
      clear hrel
      obtain ⟨j, hB, hd, hj⟩ := hq
      have HB := Lib.hid hB
      have HBW := Lib.hid hb
      obtain ⟨c0, c1', -, c3, -, hfz⟩ := rf_cell hB
      have f1 := hfz 1
      have f3 := hfz 3
      have hsz : ((tx l).size : Int) = (l.length : Int) := by rw [tx_size]
      have hSS := HS.out
      clear hfz hB hb
      by_cases hst : ∃ d p', p = d :: p' ∧ morC d = true
      · obtain ⟨d, p', rfl, hdd⟩ := hst
        obtain ⟨g', rfl⟩ : ∃ g', gk = g' + 1 := ⟨gk - 1, by simp at hg; omega⟩
        obtain ⟨hix, hc, hd', hjl⟩ := drop_get hd
        have hxi : ((tx l)[j]'hix).toNat = d.toNat := by rw [hc]
        have HC := Lib.hid (fun W => HM.out d W)
        rw [hdd] at HC
        have e1 : IntKind.i32.wrap (d.toNat : Int) = d.toNat := u8_rune d
        have e9 : IntKind.i64.wrap ((j : Int) + 1) = (j : Int) + 1 := IntWalk.i64_in _ ⟨by omega, by omega⟩
        have hlt : (j : Int) < (l.length : Int) := by omega
        have a1 : decide ((j : Int) < (l.length : Int)) = true := by simp; omega
        have HR := Lib.hid (And.intro hd' (And.intro hjl (And.intro (show p'.dropWhile morC = D by rw [← hs, List.dropWhile_cons, if_pos hdd]) (And.intro (show p'.length ≤ g' by simp at hg; omega) (show p'.length ≤ K.length by simp at hpk; omega)))))
        clear hd hj hs hg hpk hc hd' hdd hjl hSS
        go_wp2_with fail
        go_quiet ((go_at_call 72; refine (HC.out _).mono ?_; rintro e w2 ⟨rfl, rfl⟩; exact ⟨rfl, _, rfl⟩))
        go_wp2_with fail
        go_roundg g'
        case rel => exact Lib.hid ⟨p', ⟨j + 1, by rw [show ((j + 1 : Nat) : Int) = (j : Int) + 1 by omega]; exact rf_set1 HB.out _, HR.out.1, HR.out.2.1⟩, rf_below (rf_drewN HBW.out _), HR.out.2.2.1, HR.out.2.2.2.1, HR.out.2.2.2.2⟩
        case measure => omega
      · have hpD : p = D := by
          rw [← hs]
          cases p with
          | nil => rfl
          | cons d p' =>
            rw [List.dropWhile_cons, if_neg]
            intro e
            exact hst ⟨d, p', rfl, e⟩
        subst hpD
        have hcut := tok_cut HQ4.out.2.1 hd HQ4.out.2.2 hj hpk
        rw [HT.out.1] at hcut
        obtain ⟨hij, hx⟩ := hcut
        have hijI : (i : Int) ≤ (j : Int) := by omega
        have hi0 : (0 : Int) ≤ (i : Int) := by omega
        obtain ⟨LL, hLL⟩ : ∃ L : Int, (l.length : Int) = L := ⟨_, rfl⟩
        rw [hLL] at hsz
        have hjI : (j : Int) ≤ LL := by omega
        have HR := Lib.hid (And.intro hd hj)
        have HP := Lib.hid hpk
        have htwo : (decide ((j : Int) < LL) = false) ∨ (∃ (hix : j < (tx l).size) (d : UInt8), ((tx l)[j]'hix).toNat = d.toNat ∧ (j : Int) < LL ∧ decide ((j : Int) < LL) = true ∧ IntKind.i32.wrap (d.toNat : Int) = d.toNat ∧ Hid (∀ W, Calls Tryd.prog 72 #[.int .i32 (d.toNat : Int)] W fun e w' => e = .returned (.bool false) ∧ W = w')) := by
          cases p with
          | nil =>
            have := drop_end hd hj
            left; simp; omega
          | cons d p' =>
            right
            obtain ⟨hix, hc, hd', hjl⟩ := drop_get hd
            have hnd : morC d = false := by
              cases hmm : morC d with
              | false => rfl
              | true => exact absurd ⟨d, p', rfl, hmm⟩ hst
            exact ⟨hix, d, by rw [hc], by omega, by simp; omega, u8_rune d, Lib.hid fun W => by have := HM.out d W; rwa [hnd] at this⟩
        clear hd hj hs hg hpk hst hij hSS hLL
        rcases htwo with a1 | ⟨hix, d, hz, hlt, a1, e1, HC⟩
        all_goals
          go_wp2_with fail
          first
            | (go_quiet (fail))
            | (go_quiet ((go_at_call 72; refine (HC.out _).mono ?_; rintro e w2 ⟨rfl, rfl⟩; exact ⟨rfl, _, rfl⟩)))
          obtain ⟨W, hW⟩ : ∃ W, wr.drewN nq = W := ⟨_, rfl⟩
          have HBW2 := Lib.hid (show Below X w W from hW ▸ rf_drewN HBW.out _)
          have HB2 := Lib.hid (show RfB W X (tx l) (j : Int) vv f m from hW ▸ HB.out)
          rw [hW]
          clear hW c0 c1' c3 f1 f3 HB HBW
          obtain ⟨c0, c1', -, c3, -, hfz⟩ := rf_cell HB2.out
          have f1 := hfz 1
          have f3 := hfz 3
          clear hfz
          go_wp2_with fail
        all_goals
          cases f with
          | true =>
            go_quiet (fail)
            go_wp2_with fail
            go_ret
            exact ⟨0, p, true, m, rfl, zero_I, Nat.le_trans HP.out HT.out.2.2, ⟨j, rf_set3 HB2.out _, HR.out⟩, rf_below (by (repeat refine rf_drewN ?_ _); exact HBW2.out), fun _ hf => (by cases hf), fun hf => (by cases hf)⟩
          | false =>
            have HS0 := Lib.hid (show W.drew.cell? ⟨X, 0, none⟩ = some (.string (tx l)) ∧ W.drew.cell? ⟨X, 1, none⟩ = some (.int .i64 (j : Int)) ∧ W.drew.cell? ⟨X, 3, none⟩ = some (.bool false) from ⟨c0, c1', c3⟩)
            have HN6 := Lib.hid (HNM.out W.drew (ar_drew HBW2.out))
            go_region_held3 (fun V => V.cell? ⟨X, 0, none⟩ = some (.string (tx l)) ∧ V.cell? ⟨X, 1, none⟩ = some (.int .i64 (j : Int)) ∧ V.cell? ⟨X, 3, none⟩ = some (.bool false)) (first | assumption | exact HS0.out | exact HS6.out) ((go_at_call 73; (with_reducible refine HN6.out.mono ?_); rintro e w6 ⟨rfl, hb6⟩; have HB6 := Lib.hid (show Below X w w6 from (ar_drew HBW2.out).trans (hb6.mono (Nat.le_of_lt (rf_lt HB2.out)))); have HK6 := Lib.hid (show RfB w6 X (tx l) (j : Int) vv false m from (hb6.block X (rf_lt HB2.out)).trans HB2.out); have HS6 := Lib.hid (show w6.cell? ⟨X, 0, none⟩ = some (.string (tx l)) ∧ w6.cell? ⟨X, 1, none⟩ = some (.int .i64 (j : Int)) ∧ w6.cell? ⟨X, 3, none⟩ = some (.bool false) from ⟨(rf_cell HK6.out).1, (rf_cell HK6.out).2.1, (rf_cell HK6.out).2.2.2.1⟩); clear hb6))
            all_goals
              cases nb with
              | false =>
                obtain ⟨-, -, -, k3, -, kfz⟩ := rf_cell HK6.out
                have kf3 := kfz 3
                clear kfz
                go_wp2_with fail
                go_ret
                exact ⟨0, p, true, m, rfl, zero_I, Nat.le_trans HP.out HT.out.2.2, ⟨j, rf_set3 HK6.out _, HR.out⟩, rf_below HB6.out, fun _ _ => (HU.out (by simp)).2 (by simp), fun hf => (by cases hf)⟩
              | true =>
                have HN7 := Lib.hid (HVL.out w6.drew (ar_drew HB6.out) p ⟨j, HK6.out, HR.out⟩)
                have HS8 := Lib.hid (show w6.drew.cell? ⟨X, 0, none⟩ = some (.string (tx l)) ∧ w6.drew.cell? ⟨X, 1, none⟩ = some (.int .i64 (j : Int)) from ⟨(rf_cell HK6.out).1, (rf_cell HK6.out).2.1⟩)
                go_wp2_with fail
                go_region_held3 (fun V => V.cell? ⟨X, 0, none⟩ = some (.string (tx l)) ∧ V.cell? ⟨X, 1, none⟩ = some (.int .i64 (j : Int))) (first | assumption | exact HS8.out | exact HS7.out) ((go_at_call 74; (with_reducible refine HN7.out.mono ?_); rintro e w7 ⟨rfl, hq7, hb7⟩; have HQ7 := Lib.hid hq7; have HB7 := Lib.hid ((ar_drew HB6.out).trans hb7); have HS7 := Lib.hid (show w7.cell? ⟨X, 0, none⟩ = some (.string (tx l)) ∧ w7.cell? ⟨X, 1, none⟩ = some (.int .i64 (j : Int)) from ⟨(rf_cell (rf_at HQ7.out HR.out.1 HR.out.2)).1, (rf_cell (rf_at HQ7.out HR.out.1 HR.out.2)).2.1⟩); clear hq7 hb7))
                all_goals
                  go_wp2_with fail
                  go_ret
                  exact ⟨_, p, false, _, rfl, HI.out, Nat.le_trans HP.out HT.out.2.2, HQ7.out, HB7.out, fun hf => (by cases hf), fun _ => ⟨rfl, (HU.out (by simp)).1 (by simp)⟩⟩
end
end Go.Proofs.YtlgbfhjbfolibaaDoor
