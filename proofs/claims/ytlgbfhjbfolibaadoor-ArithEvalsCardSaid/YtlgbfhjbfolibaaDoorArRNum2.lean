/-
  Proved: the contract of the statements' own Num. Conditions: texts under 2^62 bytes.
-/
import Derived.Test.YtlgbfhjbfolibaaDoorArRNum
import Derived.Test.YtlgbfhjbfolibaaDoorArTok
namespace Go.Proofs.YtlgbfhjbfolibaaDoor
open Go Go.RowKit ArMath

/-- The number of digits behind a sign, or none. -/
def restF (neg : Bool) (m : B) : Int × Bool := if m.all digC = false ∨ m = [] then (0, false) else if neg then turnF m 0 else digsF m 0
theorem rest_bad {neg : Bool} {m : B} (h : m.all digC = false) : restF neg m = (0, false) := by unfold restF; rw [if_pos (.inl h)]
theorem rest_nil (neg : Bool) : restF neg [] = (0, false) := rfl
theorem rest_good {neg : Bool} {m : B} (h : m.all digC = true) (h0 : m ≠ []) : restF neg m = if neg then turnF m 0 else digsF m 0 := by
  unfold restF
  rw [if_neg (by simp [h, h0])]
set_option maxRecDepth 8000 in
set_option maxHeartbeats 2000000 in
theorem rnum_empty (m : B) (hml : m.length ≤ 4611686018427387904) (he : (tx m).size = 0) (w : World) :
    Calls Tryd.prog 12 #[.string (tx m)] w fun e w' => e = .returned (.tuple #[.int .i64 (restF false m).1, .bool (restF false m).2]) ∧ w = w' := by
  have hs := tx_size m
  obtain ⟨s, hsl⟩ : ∃ s, tx m = s := ⟨_, rfl⟩
  have HGD := Lib.hid (fun i (h : i < s.size) => (show m.drop i = (s[i]'h) :: m.drop (i + 1) from by subst hsl; exact get_drop m i h))
  have HDG := Lib.hid (fun hd W => rdigits_any m hml hd W)
  have HTN := Lib.hid (fun hd W => rturned_any m hml hd W)
  rw [hsl] at hs HDG HTN
  rw [hsl] at he ⊢
  have h00 : ¬ (0 : Int) < (s.size : Int) := by omega
  have h00D : decide ((0 : Int) < (s.size : Int)) = false := by simpa using h00
  clear he
  have hsz : s.size ≤ 4611686018427387904 := by omega
  obtain ⟨R, hRR⟩ : ∃ R, restF false m = R := ⟨_, rfl⟩
  have HRR := Lib.hid hRR
  have HS := Lib.hid hs
  rw [hRR]
  clear hRR hs hsl hml
  go_enter Tryd.func12, Tryd.ntmps12
  go_wp2_with fail
  go_loopg [5] s.size (fun gf s5 wx => wx = w ∧ ∃ (i : Nat), s5 = .int .i64 (i : Int) ∧ i + gf = s.size ∧ Hid ((m.take i).all digC = true))
  case atStart => exact ⟨rfl, 0, rfl, by omega, Lib.hid rfl⟩
  case round =>
    obtain ⟨rfl, i, rfl, hig, hrel⟩ := hrel
    by_cases hlt : i < s.size
    · obtain ⟨g', rfl⟩ : ∃ g', gk = g' + 1 := ⟨gk - 1, by omega⟩
      have hgd := HGD.out i hlt
      obtain ⟨c, hc⟩ : ∃ c : Nat, (s[i]'hlt).toNat = c := ⟨_, rfl⟩
      have hltI : (i : Int) < (s.size : Int) := by omega
      have hi0 : (0 : Int) ≤ (i : Int) := by omega
      have hi1 : (i : Int) + 1 ≤ 9223372036854775807 := by omega
      cases hd : digC (s[i]'hlt) with
      | true =>
        have HT := Lib.hid (show (m.take (i + 1)).all digC = true by
          have e : m.take (i + 1) = m.take i ++ [s[i]'hlt] := by
            rw [List.take_add_one]
            congr 1
            have h2 := congrArg (·[0]?) hgd
            simp only [List.getElem?_drop, Nat.add_zero, List.getElem?_cons_zero] at h2
            rw [h2]; rfl
          rw [e, List.all_append, hrel.out]
          simp [hd])
        obtain ⟨hc0, hc1⟩ := dig_is hd
        rw [hc] at hc0 hc1
        have hc0I : ¬ (c : Int) < 48 := by omega
        have hc1I : ¬ 57 < (c : Int) := by omega
        have hc0D : decide ((c : Int) < 48) = false := by simpa using hc0I
        have hc1D : decide (57 < (c : Int)) = false := by simpa using hc1I
        have HI := Lib.hid hig
        clear hgd hd hrel hc0 hc1 hig
        go_wp2_with fail
        go_roundg g'
        case rel => exact ⟨rfl, i + 1, by simp, by have := HI.out; omega, HT⟩
        case measure => omega
      | false =>
        have HR := Lib.hid (show R = (0, false) by
          rw [← HRR.out]
          refine rest_bad ?_
          rw [← List.take_append_drop i m, hgd, List.all_append, List.all_cons, hd]
          simp)
        have hcc : c < 48 ∨ (48 ≤ c ∧ 57 < c) := by
          have : ¬ (48 ≤ (s[i]'hlt).toNat ∧ (s[i]'hlt).toNat ≤ 57) := by simpa [digC] using hd
          rw [hc] at this
          omega
        clear hgd hd hrel hig
        rcases hcc with hcc | ⟨hcc, hcd⟩
        · have hc0I : (c : Int) < 48 := by omega
          clear hcc
          go_wp2_with fail
          go_ret2
          exact ⟨ret_two (by rw [HR.out]) (by rw [HR.out]), rfl⟩
        · have hc0I : ¬ (c : Int) < 48 := by omega
          have hc0D : decide ((c : Int) < 48) = false := by simpa using hc0I
          have hc1I : 57 < (c : Int) := by omega
          clear hcc hcd
          go_wp2_with fail
          go_ret2
          exact ⟨ret_two (by rw [HR.out]) (by rw [HR.out]), rfl⟩
    · have hall : m.all digC = true := by
        have := hrel.out
        rwa [List.take_of_length_le (by have := HS.out; omega)] at this
      have hltI : ¬ (i : Int) < (s.size : Int) := by omega
      by_cases hm0 : m = []
      · have HR := Lib.hid (show R = (0, false) by rw [← HRR.out, hm0]; rfl)
        have hsz0 : (s.size : Int) = 0 := by
          have h2 := HS.out
          have h3 : m.length = 0 := by rw [hm0]; rfl
          omega
        have hltJ : ¬ (i : Int) < 0 := by omega
        clear hall hrel hig hm0 hlt
        go_wp2_with fail
        go_ret2
        exact ⟨ret_two (by rw [HR.out]) (by rw [HR.out]), rfl⟩
      · have HR := Lib.hid (show R = digsF m 0 by rw [← HRR.out, rest_good hall hm0]; rfl)
        have HCL := Lib.hid (fun W => HDG.out hall W)
        have hsz0 : ((s.size : Int) == 0) = false := by
          have h1 : 0 < m.length := List.length_pos_iff.2 hm0
          have h2 := HS.out
          have : ¬ (s.size : Int) = 0 := by omega
          simpa using this
        clear hall hrel hig hm0 hlt
        go_wp2_with (first
          | (go_at_call 21; (with_reducible refine (HCL.out _).mono ?_); rintro e w1 ⟨rfl, rfl⟩))
        go_ret2
        exact ⟨ret_two (by rw [HR.out]) (by rw [HR.out]), rfl⟩
set_option maxRecDepth 8000 in
set_option maxHeartbeats 2000000 in
theorem rnum_plain (m : B) (hml : m.length ≤ 4611686018427387904) (he : 0 < (tx m).size) (hp : ((tx m)[0]'he).toNat ≠ 45) (w : World) :
    Calls Tryd.prog 12 #[.string (tx m)] w fun e w' => e = .returned (.tuple #[.int .i64 (restF false m).1, .bool (restF false m).2]) ∧ w = w' := by
  have hs := tx_size m
  obtain ⟨s, hsl⟩ : ∃ s, tx m = s := ⟨_, rfl⟩
  have HGD := Lib.hid (fun i (h : i < s.size) => (show m.drop i = (s[i]'h) :: m.drop (i + 1) from by subst hsl; exact get_drop m i h))
  have HDG := Lib.hid (fun hd W => rdigits_any m hml hd W)
  have HTN := Lib.hid (fun hd W => rturned_any m hml hd W)
  rw [hsl] at hs HDG HTN
  subst hsl
  obtain ⟨c0, hc0⟩ : ∃ c : Nat, ((tx m)[0]'he).toNat = c := ⟨_, rfl⟩
  rw [hc0] at hp
  generalize tx m = s at *
  have hsl : True := trivial
  have h00 : (0 : Int) < (s.size : Int) := by omega
  have hc45 : ((c0 : Int) == 45) = false := by
    have : ¬ (c0 : Int) = 45 := by omega
    simpa using this
  clear hp
  have hsz : s.size ≤ 4611686018427387904 := by omega
  obtain ⟨R, hRR⟩ : ∃ R, restF false m = R := ⟨_, rfl⟩
  have HRR := Lib.hid hRR
  have HS := Lib.hid hs
  rw [hRR]
  clear hRR hs hsl hml
  go_enter Tryd.func12, Tryd.ntmps12
  go_wp2_with fail
  go_loopg [5] s.size (fun gf s5 wx => wx = w ∧ ∃ (i : Nat), s5 = .int .i64 (i : Int) ∧ i + gf = s.size ∧ Hid ((m.take i).all digC = true))
  case atStart => exact ⟨rfl, 0, rfl, by omega, Lib.hid rfl⟩
  case round =>
    obtain ⟨rfl, i, rfl, hig, hrel⟩ := hrel
    by_cases hlt : i < s.size
    · obtain ⟨g', rfl⟩ : ∃ g', gk = g' + 1 := ⟨gk - 1, by omega⟩
      have hgd := HGD.out i hlt
      obtain ⟨c, hc⟩ : ∃ c : Nat, (s[i]'hlt).toNat = c := ⟨_, rfl⟩
      have hltI : (i : Int) < (s.size : Int) := by omega
      have hi0 : (0 : Int) ≤ (i : Int) := by omega
      have hi1 : (i : Int) + 1 ≤ 9223372036854775807 := by omega
      cases hd : digC (s[i]'hlt) with
      | true =>
        have HT := Lib.hid (show (m.take (i + 1)).all digC = true by
          have e : m.take (i + 1) = m.take i ++ [s[i]'hlt] := by
            rw [List.take_add_one]
            congr 1
            have h2 := congrArg (·[0]?) hgd
            simp only [List.getElem?_drop, Nat.add_zero, List.getElem?_cons_zero] at h2
            rw [h2]; rfl
          rw [e, List.all_append, hrel.out]
          simp [hd])
        obtain ⟨hc0, hc1⟩ := dig_is hd
        rw [hc] at hc0 hc1
        have hc0I : ¬ (c : Int) < 48 := by omega
        have hc1I : ¬ 57 < (c : Int) := by omega
        have hc0D : decide ((c : Int) < 48) = false := by simpa using hc0I
        have hc1D : decide (57 < (c : Int)) = false := by simpa using hc1I
        have HI := Lib.hid hig
        clear hgd hd hrel hc0 hc1 hig
        go_wp2_with fail
        go_roundg g'
        case rel => exact ⟨rfl, i + 1, by simp, by have := HI.out; omega, HT⟩
        case measure => omega
      | false =>
        have HR := Lib.hid (show R = (0, false) by
          rw [← HRR.out]
          refine rest_bad ?_
          rw [← List.take_append_drop i m, hgd, List.all_append, List.all_cons, hd]
          simp)
        have hcc : c < 48 ∨ (48 ≤ c ∧ 57 < c) := by
          have : ¬ (48 ≤ (s[i]'hlt).toNat ∧ (s[i]'hlt).toNat ≤ 57) := by simpa [digC] using hd
          rw [hc] at this
          omega
        clear hgd hd hrel hig
        rcases hcc with hcc | ⟨hcc, hcd⟩
        · have hc0I : (c : Int) < 48 := by omega
          clear hcc
          go_wp2_with fail
          go_ret2
          exact ⟨ret_two (by rw [HR.out]) (by rw [HR.out]), rfl⟩
        · have hc0I : ¬ (c : Int) < 48 := by omega
          have hc0D : decide ((c : Int) < 48) = false := by simpa using hc0I
          have hc1I : 57 < (c : Int) := by omega
          clear hcc hcd
          go_wp2_with fail
          go_ret2
          exact ⟨ret_two (by rw [HR.out]) (by rw [HR.out]), rfl⟩
    · have hall : m.all digC = true := by
        have := hrel.out
        rwa [List.take_of_length_le (by have := HS.out; omega)] at this
      have hltI : ¬ (i : Int) < (s.size : Int) := by omega
      by_cases hm0 : m = []
      · have HR := Lib.hid (show R = (0, false) by rw [← HRR.out, hm0]; rfl)
        have hsz0 : (s.size : Int) = 0 := by
          have h2 := HS.out
          have h3 : m.length = 0 := by rw [hm0]; rfl
          omega
        have hltJ : ¬ (i : Int) < 0 := by omega
        clear hall hrel hig hm0 hlt
        go_wp2_with fail
        go_ret2
        exact ⟨ret_two (by rw [HR.out]) (by rw [HR.out]), rfl⟩
      · have HR := Lib.hid (show R = digsF m 0 by rw [← HRR.out, rest_good hall hm0]; rfl)
        have HCL := Lib.hid (fun W => HDG.out hall W)
        have hsz0 : ((s.size : Int) == 0) = false := by
          have h1 : 0 < m.length := List.length_pos_iff.2 hm0
          have h2 := HS.out
          have : ¬ (s.size : Int) = 0 := by omega
          simpa using this
        clear hall hrel hig hm0 hlt
        go_wp2_with (first
          | (go_at_call 21; (with_reducible refine (HCL.out _).mono ?_); rintro e w1 ⟨rfl, rfl⟩))
        go_ret2
        exact ⟨ret_two (by rw [HR.out]) (by rw [HR.out]), rfl⟩
set_option maxRecDepth 8000 in
set_option maxHeartbeats 2000000 in
theorem rnum_minus (m : B) (hml : m.length ≤ 4611686018427387904) (s0 : ByteArray) (h0 : 0 < s0.size) (hz : s0.size ≤ 4611686018427387905) (hc : (s0[0]'h0).toNat = 45) (hx : s0.extract 1 s0.size = tx m) (w : World) :
    Calls Tryd.prog 12 #[.string s0] w fun e w' => e = .returned (.tuple #[.int .i64 (restF true m).1, .bool (restF true m).2]) ∧ w = w' := by
  have hs := tx_size m
  obtain ⟨s, hsl⟩ : ∃ s, tx m = s := ⟨_, rfl⟩
  have HGD := Lib.hid (fun i (h : i < s.size) => (show m.drop i = (s[i]'h) :: m.drop (i + 1) from by subst hsl; exact get_drop m i h))
  have HDG := Lib.hid (fun hd W => rdigits_any m hml hd W)
  have HTN := Lib.hid (fun hd W => rturned_any m hml hd W)
  rw [hsl] at hs HDG HTN
  rw [hsl] at hx
  have h00 : (0 : Int) < (s0.size : Int) := by omega
  have h01 : (1 : Int) ≤ (s0.size : Int) := by omega
  have hsz : s.size ≤ 4611686018427387904 := by omega
  obtain ⟨R, hRR⟩ : ∃ R, restF true m = R := ⟨_, rfl⟩
  have HRR := Lib.hid hRR
  have HS := Lib.hid hs
  rw [hRR]
  clear hRR hs hsl hml
  go_enter Tryd.func12, Tryd.ntmps12
  go_wp2_with fail
  go_loopg [5] s.size (fun gf s5 wx => wx = w ∧ ∃ (i : Nat), s5 = .int .i64 (i : Int) ∧ i + gf = s.size ∧ Hid ((m.take i).all digC = true))
  case atStart => exact ⟨rfl, 0, rfl, by omega, Lib.hid rfl⟩
  case round =>
    obtain ⟨rfl, i, rfl, hig, hrel⟩ := hrel
    by_cases hlt : i < s.size
    · obtain ⟨g', rfl⟩ : ∃ g', gk = g' + 1 := ⟨gk - 1, by omega⟩
      have hgd := HGD.out i hlt
      obtain ⟨c, hc⟩ : ∃ c : Nat, (s[i]'hlt).toNat = c := ⟨_, rfl⟩
      have hltI : (i : Int) < (s.size : Int) := by omega
      have hi0 : (0 : Int) ≤ (i : Int) := by omega
      have hi1 : (i : Int) + 1 ≤ 9223372036854775807 := by omega
      cases hd : digC (s[i]'hlt) with
      | true =>
        have HT := Lib.hid (show (m.take (i + 1)).all digC = true by
          have e : m.take (i + 1) = m.take i ++ [s[i]'hlt] := by
            rw [List.take_add_one]
            congr 1
            have h2 := congrArg (·[0]?) hgd
            simp only [List.getElem?_drop, Nat.add_zero, List.getElem?_cons_zero] at h2
            rw [h2]; rfl
          rw [e, List.all_append, hrel.out]
          simp [hd])
        obtain ⟨hc0, hc1⟩ := dig_is hd
        rw [hc] at hc0 hc1
        have hc0I : ¬ (c : Int) < 48 := by omega
        have hc1I : ¬ 57 < (c : Int) := by omega
        have hc0D : decide ((c : Int) < 48) = false := by simpa using hc0I
        have hc1D : decide (57 < (c : Int)) = false := by simpa using hc1I
        have HI := Lib.hid hig
        clear hgd hd hrel hc0 hc1 hig
        go_wp2_with fail
        go_roundg g'
        case rel => exact ⟨rfl, i + 1, by simp, by have := HI.out; omega, HT⟩
        case measure => omega
      | false =>
        have HR := Lib.hid (show R = (0, false) by
          rw [← HRR.out]
          refine rest_bad ?_
          rw [← List.take_append_drop i m, hgd, List.all_append, List.all_cons, hd]
          simp)
        have hcc : c < 48 ∨ (48 ≤ c ∧ 57 < c) := by
          have : ¬ (48 ≤ (s[i]'hlt).toNat ∧ (s[i]'hlt).toNat ≤ 57) := by simpa [digC] using hd
          rw [hc] at this
          omega
        clear hgd hd hrel hig
        rcases hcc with hcc | ⟨hcc, hcd⟩
        · have hc0I : (c : Int) < 48 := by omega
          clear hcc
          go_wp2_with fail
          go_ret2
          exact ⟨ret_two (by rw [HR.out]) (by rw [HR.out]), rfl⟩
        · have hc0I : ¬ (c : Int) < 48 := by omega
          have hc0D : decide ((c : Int) < 48) = false := by simpa using hc0I
          have hc1I : 57 < (c : Int) := by omega
          clear hcc hcd
          go_wp2_with fail
          go_ret2
          exact ⟨ret_two (by rw [HR.out]) (by rw [HR.out]), rfl⟩
    · have hall : m.all digC = true := by
        have := hrel.out
        rwa [List.take_of_length_le (by have := HS.out; omega)] at this
      have hltI : ¬ (i : Int) < (s.size : Int) := by omega
      by_cases hm0 : m = []
      · have HR := Lib.hid (show R = (0, false) by rw [← HRR.out, hm0]; rfl)
        have hsz0 : (s.size : Int) = 0 := by
          have h2 := HS.out
          have h3 : m.length = 0 := by rw [hm0]; rfl
          omega
        have hltJ : ¬ (i : Int) < 0 := by omega
        clear hall hrel hig hm0 hlt
        go_wp2_with fail
        go_ret2
        exact ⟨ret_two (by rw [HR.out]) (by rw [HR.out]), rfl⟩
      · have HR := Lib.hid (show R = turnF m 0 by rw [← HRR.out, rest_good hall hm0]; rfl)
        have HCL := Lib.hid (fun W => HTN.out hall W)
        have hsz0 : ((s.size : Int) == 0) = false := by
          have h1 : 0 < m.length := List.length_pos_iff.2 hm0
          have h2 := HS.out
          have : ¬ (s.size : Int) = 0 := by omega
          simpa using this
        clear hall hrel hig hm0 hlt
        go_wp2_with (first
          | (go_at_call 20; (with_reducible refine (HCL.out _).mono ?_); rintro e w1 ⟨rfl, rfl⟩))
        go_ret2
        exact ⟨ret_two (by rw [HR.out]) (by rw [HR.out]), rfl⟩
theorem rnum_any (l : B) (hl : l.length ≤ 4611686018427387904) (w : World) :
    Calls Tryd.prog 12 #[.string (tx l)] w fun e w' => e = .returned (.tuple #[.int .i64 (numM l).1, .bool (numM l).2]) ∧ w = w' := by
  rw [← rnum_is]
  cases l with
  | nil => exact rnum_empty [] (by simp) (by rw [tx_size]; rfl) w
  | cons c r =>
    obtain ⟨hs, hc⟩ := head_tx c r
    by_cases h45 : c = 45
    · subst h45
      refine rnum_minus r (by simp at hl; omega) (tx (45 :: r)) hs (by rw [tx_size]; simp at hl ⊢; omega) (by rw [hc]; rfl) (by rw [extract_tx, tx_list]; rfl) w
    · have hn : decide ((c :: r).head? = some 45) = false := by simpa using h45
      have e : rnumM (c :: r) = restF false (c :: r) := by unfold rnumM restF; simp only [hn]; rfl
      rw [e]
      exact rnum_plain (c :: r) hl hs (by rw [hc]; exact fun h => h45 (UInt8.toNat_inj.1 h)) w
end Go.Proofs.YtlgbfhjbfolibaaDoor
