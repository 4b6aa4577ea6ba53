/-
  Proved: a contract of the statements' own value of a name. Conditions: the reckoner and its bindings lie in memory.
-/
import Derived.Test.YtlgbfhjbfolibaaDoorArRefOps
import Derived.Test.YtlgbfhjbfolibaaDoorArRNum2
import Derived.Test.YtlgbfhjbfolibaaDoorArVars
namespace Go.Proofs.YtlgbfhjbfolibaaDoor
open Go Go.RowKit ArMath GlyphMath

section
variable {w : World} {X : Nat} {l r : B} {vv : Value} {f m : Bool} {vs : Vars}
set_option maxRecDepth 100000 in
set_option maxHeartbeats 2000000 in
theorem rvalue_any (n : B) (hv : VarsAt w vv vs) (h : Rf w X l vv r f m) :
    Calls Tryd.prog 74 #[.pointer (some ⟨X, 0, none⟩), .string (tx n)] w fun e w' => e = .returned (.int .i64 (envM vs n).1) ∧ Rf w' X l vv r f (m || !(envM vs n).2) ∧ Below X w w' := by
  have HH := Lib.hid h
  obtain ⟨c4, f4⟩ := h.cells
  have c2 : w.cell? ⟨X, 2, none⟩ = some vv := by
    obtain ⟨i, hB, -⟩ := h
    exact (rf_cell hB).2.2.1
  obtain ⟨p, c, rfl, h20, hj⟩ := hv
  have HJ := Lib.hid hj
  obtain ⟨L, hL⟩ : ∃ L, vs.length = L := ⟨_, rfl⟩
  have HL := Lib.hid hL
  rw [hL] at h20 c2 HH
  rw [hL]
  obtain ⟨R, hR⟩ : ∃ R, envM vs n = R := ⟨_, rfl⟩
  rw [hR]
  have HS := Lib.hid (show envM (vs.drop 0) n = R from hR)
  obtain ⟨TN, hTN⟩ : ∃ T, tx n = T := ⟨_, rfl⟩
  have HTN := Lib.hid hTN
  rw [hTN]
  clear h hj hL hR hTN
  go_enter Tryd.func74, Tryd.ntmps74
  go_wp2_with fail
  go_loopg [5] L (fun gf s5 wx => ∃ j : Nat, s5 = .int .i64 j ∧ j + gf = L ∧ wx = w ∧ Hid (envM (vs.drop j) n = R))
  case atStart => exact ⟨0, rfl, by omega, rfl, HS⟩
  case round =>
    obtain ⟨j, rfl, hjg, rfl, hrel⟩ := hrel
    by_cases hlt : j < L
    · obtain ⟨g', rfl⟩ : ∃ g', gk = g' + 1 := ⟨gk - 1, by omega⟩
      have hjl : j < vs.length := by rw [HL.out]; exact hlt
      obtain ⟨⟨k, v⟩, hx⟩ : ∃ x, vs[j]? = some x := ⟨_, List.getElem?_eq_getElem hjl⟩
      obtain ⟨hk, hv, b, o, rfl, d0, d1⟩ := HJ.out j (k, v) hx
      have hjI : (j : Int) < (L : Int) := by omega
      have hjI2 : (j : Int) + 1 ≤ 9223372036854775807 := by omega
      have hj0 : (0 : Int) ≤ (j : Int) := by omega
      have hdr : vs.drop j = (k, v) :: vs.drop (j + 1) := by
        rw [List.drop_eq_getElem_cons hjl]
        rw [List.getElem?_eq_getElem hjl] at hx
        rw [Option.some.inj hx]
      have hE := hrel.out
      rw [hdr] at hE
      have hE2 : (if k = n then valM v else envM (vs.drop (j + 1)) n) = R := hE
      have HEQ := Lib.hid (show ((tx k).toList == TN.toList) = decide (k = n) by rw [← HTN.out, tx_toList, tx_toList, Bool.eq_iff_iff]; simp)
      have HEV := Lib.hid (show ((tx v).toList == []) = decide (v = []) by rw [tx_toList, Bool.eq_iff_iff]; simp)
      have HNM := Lib.hid (fun W => rnum_any v (by have h9 : v.length ≤ 140737488355328 := hv; exact Nat.le_trans h9 (by decide)) W)
      obtain ⟨TK, hTK⟩ : ∃ T, tx k = T := ⟨_, rfl⟩
      obtain ⟨TV, hTV⟩ : ∃ T, tx v = T := ⟨_, rfl⟩
      rw [hTK] at d0 HEQ
      rw [hTV] at d1 HEV HNM
      clear hrel hE hdr hx hk hv hTK hTV
      by_cases hkn : k = n
      · rw [if_pos hkn] at hE2
        have q0 : (TK.toList == TN.toList) = true := by rw [HEQ.out]; simpa using hkn
        by_cases hve : v = []
        · have q1 : (TV.toList == []) = true := by rw [HEV.out]; simpa using hve
          have HR := Lib.hid (show R = (0, true) by rw [← hE2, hve]; rfl)
          clear hE2 hkn hve
          go_wp2_with fail
          go_ret
          exact ⟨ret_int (by rw [HR.out]), by rw [HR.out]; simpa using HH.out, Below.refl X _⟩
        · have q1 : (TV.toList == []) = false := by rw [HEV.out]; simpa using hve
          have HR := Lib.hid (show R = numM v by rw [← hE2]; unfold valM; simp [hve])
          rw [← HR.out] at HNM
          clear hE2 hkn hve
          obtain ⟨R1, R2⟩ := R
          simp only at HNM
          go_wp2_with fail
          refine (HNM.out _).mono ?_
          rintro e w2 ⟨rfl, rfl⟩
          cases m <;> cases R2
          all_goals
            go_wp2_with fail
          all_goals
            go_ret
            refine ⟨rfl, rf_end HH.out ?_, rf_below (Below.refl X _)⟩
            first | rfl | (simp_all; done) | (trace_state; fail)
      · rw [if_neg hkn] at hE2
        have q0 : (TK.toList == TN.toList) = false := by rw [HEQ.out]; simpa using hkn
        have HE2 := Lib.hid hE2
        clear hE2 hkn
        go_wp2_with fail
        go_roundg g'
        case rel => exact ⟨j + 1, by simp, by omega, rfl, HE2⟩
        case measure => omega
    · have hjL : j = L := by omega
      subst hjL
      have HR := Lib.hid (show R = (0, true) by rw [← hrel.out, List.drop_of_length_le (by rw [HL.out]; omega)]; rfl)
      clear hrel
      go_wp2_with fail
      go_ret
      exact ⟨ret_int (by rw [HR.out]), by rw [HR.out]; simpa using HH.out, Below.refl X _⟩
end
end Go.Proofs.YtlgbfhjbfolibaaDoor
