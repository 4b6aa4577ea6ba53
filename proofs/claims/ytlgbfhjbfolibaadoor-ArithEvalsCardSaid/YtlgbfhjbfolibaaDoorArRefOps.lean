/-
  Proved: contracts of the statements' own sums and products. Conditions: the reckoner lies in memory; numbers of 64 binary digits.
-/
import Derived.Test.YtlgbfhjbfolibaaDoorArEat
import Derived.Test.YtlgbfhjbfolibaaDoorArRun
namespace Go.Proofs.YtlgbfhjbfolibaaDoor
open Go Go.RowKit ArMath GlyphMath

theorem mul_val (a b P : Int) (h : RowKit.wrap64 (a * b) = P) : (a = -1 → RowKit.wrap64 (-b) = P) ∧ (b = -1 → RowKit.wrap64 (-a) = P) ∧ (a = -1 → b = -1 → 1 = P) ∧ (a = -1 → b = -9223372036854775808 → RowKit.wrap64 9223372036854775808 = P) := by
  subst h
  refine ⟨?_, ?_, ?_, ?_⟩
  · intro h; subst h; congr 1; omega
  · intro h; subst h; congr 1; omega
  · intro h k; subst h; subst k; decide +kernel
  · intro h k; subst h; subst k; rfl
theorem ryes_any (b : Bool) (w : World) :
    Calls Tryd.prog 30 #[.bool b] w fun e w' => e = .returned (.int .i64 (truV b)) ∧ w = w' := by
  cases b
  all_goals
    go_enter Tryd.func30, Tryd.ntmps30
    go_wp2_with fail
    go_ret
    exact ⟨rfl, rfl⟩
section
variable {w : World} {X : Nat} {l r : B} {vv : Value} {f m : Bool}
theorem rf_end {u m' : Bool} (h : Rf w X l vv r f m) (hm : u = m') : Rf (w.setCell ⟨X, 4, none⟩ (.bool u)) X l vv r f m' := by
  obtain ⟨i, hB, hd, hi⟩ := h
  rw [← hm]
  exact ⟨i, rf_set4 hB _, hd, hi⟩
theorem Rf.cells (h : Rf w X l vv r f m) : w.cell? ⟨X, 4, none⟩ = some (.bool m) ∧ w.frozen? ⟨X, 4, none⟩ = false := by
  obtain ⟨i, hB, -⟩ := h
  obtain ⟨-, -, -, -, c4, hfz⟩ := rf_cell hB
  exact ⟨c4, hfz 4⟩
set_option maxRecDepth 8000 in
theorem radd_any (a b : Int) (ha : I64 a) (hb : I64 b) (h : Rf w X l vv r f m) :
    Calls Tryd.prog 49 #[.pointer (some ⟨X, 0, none⟩), .int .i64 a, .int .i64 b] w fun e w' => e = .returned (.int .i64 (wr (a + b))) ∧ Rf w' X l vv r f (m || !inR (a + b)) ∧ Below X w w' := by
  obtain ⟨c4, f4⟩ := h.cells
  have HH := Lib.hid h
  have HA := Lib.hid (And.intro ha hb)
  obtain ⟨M, hM⟩ : ∃ M, (m || !inR (a + b)) = M := ⟨_, rfl⟩
  rw [hM]
  have HM := Lib.hid hM
  obtain ⟨ha1, ha2⟩ := ha
  obtain ⟨hb1, hb2⟩ := hb
  have e1 : 0 < b → IntKind.i64.wrap (9223372036854775807 - b) = 9223372036854775807 - b := fun _ => IntWalk.i64_in _ ⟨by omega, by omega⟩
  have e2 : b < 0 → IntKind.i64.wrap (-9223372036854775808 - b) = -9223372036854775808 - b := fun _ => IntWalk.i64_in _ ⟨by omega, by omega⟩
  have HE := Lib.hid (And.intro e1 e2)
  clear h hM e1 e2 ha1 ha2 hb1 hb2
  cases m with
  | true =>
    go_enter Tryd.func49, Tryd.ntmps49
    go_wp2_with fail
    go_ret
    exact ⟨rfl, rf_end HH.out (by rw [← HM.out]; rfl), rf_below (Below.refl X w)⟩
  | false =>
    by_cases h0 : 0 < b
    · have h1 : ¬ b < 0 := by omega
      have e1 := HE.out.1 h0
      go_enter Tryd.func49, Tryd.ntmps49
      go_wp2_with fail
      all_goals
        go_ret
        refine ⟨rfl, rf_end HH.out ?_, rf_below (Below.refl X w)⟩
        rw [← HM.out]
        obtain ⟨⟨a1, a2⟩, b1, b2⟩ := HA.out
        unfold inR
        first | (rw [Bool.eq_iff_iff]; simp; omega) | (rw [Bool.eq_iff_iff]; simp_all; omega) | (trace_state; fail)
    · by_cases h1 : b < 0
      · have e2 := HE.out.2 h1
        go_enter Tryd.func49, Tryd.ntmps49
        go_wp2_with fail
        all_goals
          go_ret
          refine ⟨rfl, rf_end HH.out ?_, rf_below (Below.refl X w)⟩
          rw [← HM.out]
          obtain ⟨⟨a1, a2⟩, b1, b2⟩ := HA.out
          unfold inR
          first | (rw [Bool.eq_iff_iff]; simp; omega) | (rw [Bool.eq_iff_iff]; simp_all; omega) | (trace_state; fail)
      · go_enter Tryd.func49, Tryd.ntmps49
        go_wp2_with fail
        go_ret
        refine ⟨rfl, rf_end HH.out ?_, rf_below (Below.refl X w)⟩
        rw [← HM.out]
        obtain ⟨⟨a1, a2⟩, b1, b2⟩ := HA.out
        unfold inR
        first | (rw [Bool.eq_iff_iff]; simp; omega) | (rw [Bool.eq_iff_iff]; simp_all; omega) | (trace_state; fail)
set_option maxRecDepth 8000 in
theorem rsub_any (a b : Int) (ha : I64 a) (hb : I64 b) (h : Rf w X l vv r f m) :
    Calls Tryd.prog 50 #[.pointer (some ⟨X, 0, none⟩), .int .i64 a, .int .i64 b] w fun e w' => e = .returned (.int .i64 (wr (a - b))) ∧ Rf w' X l vv r f (m || !inR (a - b)) ∧ Below X w w' := by
  obtain ⟨c4, f4⟩ := h.cells
  have HH := Lib.hid h
  have HA := Lib.hid (And.intro ha hb)
  obtain ⟨M, hM⟩ : ∃ M, (m || !inR (a - b)) = M := ⟨_, rfl⟩
  rw [hM]
  have HM := Lib.hid hM
  obtain ⟨ha1, ha2⟩ := ha
  obtain ⟨hb1, hb2⟩ := hb
  have e1 : b < 0 → IntKind.i64.wrap (9223372036854775807 + b) = 9223372036854775807 + b := fun _ => IntWalk.i64_in _ ⟨by omega, by omega⟩
  have e2 : 0 < b → IntKind.i64.wrap (-9223372036854775808 + b) = -9223372036854775808 + b := fun _ => IntWalk.i64_in _ ⟨by omega, by omega⟩
  have HE := Lib.hid (And.intro e1 e2)
  clear h hM e1 e2 ha1 ha2 hb1 hb2
  cases m with
  | true =>
    go_enter Tryd.func50, Tryd.ntmps50
    go_wp2_with fail
    go_ret
    exact ⟨rfl, rf_end HH.out (by rw [← HM.out]; rfl), rf_below (Below.refl X w)⟩
  | false =>
    by_cases h0 : 0 < b
    · have h1 : ¬ b < 0 := by omega
      have e1 := HE.out.2 h0
      go_enter Tryd.func50, Tryd.ntmps50
      go_wp2_with fail
      all_goals
        go_ret
        refine ⟨rfl, rf_end HH.out ?_, rf_below (Below.refl X w)⟩
        rw [← HM.out]
        obtain ⟨⟨a1, a2⟩, b1, b2⟩ := HA.out
        unfold inR
        first | (rw [Bool.eq_iff_iff]; simp; omega) | (rw [Bool.eq_iff_iff]; simp_all; omega) | (trace_state; fail)
    · by_cases h1 : b < 0
      · have e2 := HE.out.1 h1
        go_enter Tryd.func50, Tryd.ntmps50
        go_wp2_with fail
        all_goals
          go_ret
          refine ⟨rfl, rf_end HH.out ?_, rf_below (Below.refl X w)⟩
          rw [← HM.out]
          obtain ⟨⟨a1, a2⟩, b1, b2⟩ := HA.out
          unfold inR
          first | (rw [Bool.eq_iff_iff]; simp; omega) | (rw [Bool.eq_iff_iff]; simp_all; omega) | (trace_state; fail)
      · go_enter Tryd.func50, Tryd.ntmps50
        go_wp2_with fail
        go_ret
        refine ⟨rfl, rf_end HH.out ?_, rf_below (Below.refl X w)⟩
        rw [← HM.out]
        obtain ⟨⟨a1, a2⟩, b1, b2⟩ := HA.out
        unfold inR
        first | (rw [Bool.eq_iff_iff]; simp; omega) | (rw [Bool.eq_iff_iff]; simp_all; omega) | (trace_state; fail)
set_option maxRecDepth 8000 in
theorem rmul_any (a b : Int) (ha : I64 a) (hb : I64 b) (h : Rf w X l vv r f m) :
    Calls Tryd.prog 65 #[.pointer (some ⟨X, 0, none⟩), .int .i64 a, .int .i64 b] w fun e w' => e = .returned (.int .i64 (wr (a * b))) ∧ Rf w' X l vv r f (m || !inR (a * b)) ∧ Below X w w' := by
  obtain ⟨c4, f4⟩ := h.cells
  have HH := Lib.hid h
  obtain ⟨M, hM⟩ : ∃ M, (m || !inR (a * b)) = M := ⟨_, rfl⟩
  rw [hM]
  have HM := Lib.hid hM
  obtain ⟨P, hP⟩ : ∃ P, wr (a * b) = P := ⟨_, rfl⟩
  have hPw : RowKit.wrap64 (a * b) = P := hP
  have HP := Lib.hid hPw
  have HL := Lib.hid (mul_val a b P hPw)
  have HE := Lib.hid (fun h0 => prod_back b a hb ha h0)
  rw [Int.mul_comm b a, hP] at HE
  rw [hP]
  have HZ := Lib.hid (show a = 0 ∨ b = 0 → inR (a * b) = true from by rintro (h | h) <;> rw [h] <;> simp [inR])
  obtain ⟨V, hV⟩ : ∃ V, inR (a * b) = V := ⟨_, rfl⟩
  rw [hV] at HE HM HZ
  clear h hM hP ha hb hV
  by_cases ha0 : a = 0
  · subst ha0
    go_enter Tryd.func65, Tryd.ntmps65
    go_wp2_with fail
    first | go_ret | (trace_state; fail)
    have hv := HZ.out (by simp)
    exact ⟨ret_int (by rw [← HP.out]; simp [RowKit.wrap64]), by rw [← HM.out, hv]; simpa using HH.out, Below.refl X w⟩
  by_cases hb0 : b = 0
  · subst hb0
    have h1 : (a != 0) = true := by simpa using ha0
    go_enter Tryd.func65, Tryd.ntmps65
    go_wp2_with fail
    first | go_ret | (trace_state; fail)
    have hv := HZ.out (by simp)
    exact ⟨ret_int (by rw [← HP.out]; simp [RowKit.wrap64]), by rw [← HM.out, hv]; simpa using HH.out, Below.refl X w⟩
  have h1 : (a != 0) = true := by simpa using ha0
  have h2 : (b != 0) = true := by simpa using hb0
  have HV := Lib.hid (HE.out hb0)
  obtain ⟨Q, hQ⟩ : ∃ Q, RowKit.wrap64 (P.tdiv b) = Q := ⟨_, rfl⟩
  rw [show wr (P.tdiv b) = Q from hQ] at HV
  have HQ := Lib.hid hQ
  clear HE HZ
  go_enter Tryd.func65, Tryd.ntmps65
  go_wp2_with fail
  all_goals
    go_ret
    refine ⟨ret_int (by
      first
        | exact HP.out
        | exact HL.out.2.2.2 (by assumption) (by assumption)
        | exact HL.out.2.2.1 (by assumption) (by assumption)
        | exact HL.out.1 (by assumption)
        | exact HL.out.2.1 (by assumption)), rf_end HH.out ?_, rf_below (Below.refl X w)⟩
    rw [← HM.out, HV.out]
    first
      | (rw [show m = true by assumption]; rfl)
      | (have q1 : m = false := by simpa using (show ¬ m = true by assumption)
         rw [q1, decide_eq_false (show ¬ Q = a by assumption)]; rfl)
      | (exfalso
         have z1 := HP.out
         have z2 := HQ.out
         have z3 : Q = a := by assumption
         rw [show a = -1 by assumption, show b = -9223372036854775808 by assumption] at z1
         rw [← z1, show b = -9223372036854775808 by assumption, z3, show a = -1 by assumption] at z2
         exact absurd z2 (by decide +kernel))
      | (have q1 : m = false := by simpa using (show ¬ m = true by assumption)
         rw [q1, decide_eq_true (show Q = a by assumption), decide_eq_true (show b = -1 by assumption)]; simp; done)
      | (have q1 : m = false := by simpa using (show ¬ m = true by assumption)
         rw [q1, decide_eq_true (show Q = a by assumption), decide_eq_true (show b = -1 by assumption)]; simp; rfl)
      | (have q1 : m = false := by simpa using (show ¬ m = true by assumption)
         rw [q1, decide_eq_true (show Q = a by assumption), decide_eq_false (show ¬ b = -1 by assumption)]; rfl)
      | (have q1 : m = false := by simpa using (show ¬ m = true by assumption)
         rw [q1, decide_eq_true (show Q = a by assumption), decide_eq_false (show ¬ b = -1 by assumption), show (b == -9223372036854775808) = false by simpa using (show ¬ b = -9223372036854775808 by assumption)]; rfl)
      | (have q1 : m = false := by simpa using (show ¬ m = true by assumption)
         rw [q1, decide_eq_true (show Q = a by assumption), decide_eq_true (show b = -1 by assumption), show a = -1 by assumption]; rfl)
      | (trace_state; fail)
set_option maxRecDepth 8000 in
theorem rdiv_any (a b : Int) (ha : I64 a) (h : Rf w X l vv r f m) :
    Calls Tryd.prog 66 #[.pointer (some ⟨X, 0, none⟩), .int .i64 a, .int .i64 b, .bool false] w fun e w' => e = .returned (.int .i64 (twoV [47] a b).1) ∧ Rf w' X l vv r f (m || !(twoV [47] a b).2) ∧ Below X w w' := by
  obtain ⟨c4, f4⟩ := h.cells
  have HH := Lib.hid h
  have HS := Lib.hid (rsub_any 0 a ⟨by omega, by omega⟩ ha h)
  have HI := Lib.hid (fun h0 h1 => tdiv_in a b ha h0 h1)
  have e1 : twoV [47] a b = if b = 0 then (0, false) else (wr (a.tdiv b), inR (a.tdiv b)) := by simp [twoV]
  rw [e1]
  clear h ha e1
  by_cases h0 : b = 0
  · subst h0
    go_enter Tryd.func66, Tryd.ntmps66
    go_wp2_with fail
    go_ret
    exact ⟨rfl, rf_end HH.out (by simp), rf_below (Below.refl X w)⟩
  rw [if_neg h0]
  by_cases h1 : b = -1
  · subst h1
    rw [show a.tdiv (-1) = 0 - a by simp [Int.tdiv_neg]]
    clear HI
    go_enter Tryd.func66, Tryd.ntmps66
    go_wp2_with ((go_at_call 50; (with_reducible refine HS.out.mono ?_); rintro e w1 ⟨rfl, hq, hb⟩; have HQ := Lib.hid hq; have HB := Lib.hid hb; clear hq hb))
    first | go_ret | (trace_state; fail)
    exact ⟨ret_int (by rw [Int.zero_sub]), HQ.out, HB.out⟩
  · have h2 : I64 (a.tdiv b) := HI.out h0 (fun h => h1 h.2)
    rw [wr_in h2, (inR_iff _).2 h2]
    have HV := Lib.hid h2
    have e9 : RowKit.wrap64 (a.tdiv b) = a.tdiv b := wr_in h2
    clear HI h2
    go_enter Tryd.func66, Tryd.ntmps66
    go_wp2_with fail
    go_ret
    exact ⟨ret_int (wr_in HV.out), by simpa using HH.out, Below.refl X w⟩
set_option maxRecDepth 8000 in
theorem rrem_any (a b : Int) (h : Rf w X l vv r f m) :
    Calls Tryd.prog 66 #[.pointer (some ⟨X, 0, none⟩), .int .i64 a, .int .i64 b, .bool true] w fun e w' => e = .returned (.int .i64 (twoV [37] a b).1) ∧ Rf w' X l vv r f (m || !(twoV [37] a b).2) ∧ Below X w w' := by
  obtain ⟨c4, f4⟩ := h.cells
  have HH := Lib.hid h
  have e1 : twoV [37] a b = if b = 0 then (0, false) else (a.tmod b, true) := by simp [twoV]
  rw [e1]
  clear h e1
  by_cases h0 : b = 0
  · subst h0
    go_enter Tryd.func66, Tryd.ntmps66
    go_wp2_with fail
    go_ret
    exact ⟨rfl, rf_end HH.out (by simp), rf_below (Below.refl X w)⟩
  rw [if_neg h0]
  by_cases h1 : b = -1
  · subst h1
    rw [show a.tmod (-1) = 0 by simp]
    go_enter Tryd.func66, Tryd.ntmps66
    go_wp2_with fail
    first | go_ret | (trace_state; fail)
    exact ⟨rfl, by simpa using HH.out, Below.refl X w⟩
  · go_enter Tryd.func66, Tryd.ntmps66
    go_wp2_with fail
    first | go_ret | (trace_state; fail)
    exact ⟨rfl, by simpa using HH.out, Below.refl X w⟩
end
end Go.Proofs.YtlgbfhjbfolibaaDoor
