/-
  Proved: a contract of the statements' own eat. Conditions: the reckoner lies in memory; at most 2^31 bytes.
-/
import Derived.Test.YtlgbfhjbfolibaaDoorArRef
namespace Go.Proofs.YtlgbfhjbfolibaaDoor
open Go Go.RowKit ArMath GlyphMath

/-- It is next. -/
def preB (f : Bool) (t r : B) : Bool := !f && t.isPrefixOf (skipB r)
/-- What is left, where it is gone by if it is next. -/
def behP (f : Bool) (t r : B) : B := if preB f t r then (skipB r).drop t.length else skipB r
section
variable {w : World} {X : Nat} {l r : B} {vv : Value} {f m : Bool}
theorem take_tx (l K : B) (i n : Nat) (hd : l.drop i = K) : (tx l).extract i (i + n) = tx (K.take n) := by
  have : ((tx l).extract i (i + n)).data.toList = K.take n := by rw [Lib.extract_data, tx_list, ← hd]; simp [List.take_drop]
  rw [← this, tx_of]
theorem tx_inj {a b : B} (h : tx a = tx b) : a = b := by rw [← tx_list a, h, tx_list]
theorem pre_take (t K : B) : t.isPrefixOf K = decide (K.take t.length = t) := by
  rw [Bool.eq_iff_iff, List.isPrefixOf_iff_prefix, List.prefix_iff_eq_take]
  simp [eq_comm]
set_option maxRecDepth 8000 in
set_option maxHeartbeats 2000000 in
theorem reat_any (t : B) (ht : t.length ≤ 2) (hl : l.length ≤ 2147483648) (h : Rf w X l vv r f m) :
    Calls Tryd.prog 29 #[.pointer (some ⟨X, 0, none⟩), .string (tx t)] w fun e w' => e = .returned (.bool (preB f t r)) ∧ Rf w' X l vv (behP f t r) f m ∧ Below X w w' := by
  have HS := Lib.hid (rskip_any hl h)
  obtain ⟨P, hP⟩ : ∃ P, preB f t r = P := ⟨_, rfl⟩
  have hB : behP f t r = if P then (skipB r).drop t.length else skipB r := by rw [← hP]; rfl
  obtain ⟨K, hK⟩ : ∃ K, skipB r = K := ⟨_, rfl⟩
  rw [hB, hP]
  unfold preB at hP
  rw [hK] at hP HS ⊢
  obtain ⟨n, hn⟩ : ∃ n, t.length = n := ⟨_, rfl⟩
  rw [hn] at ht ⊢
  have hts : ((tx t).size : Int) = (n : Int) := by rw [tx_size, hn]
  have hls : ((tx l).size : Int) = (l.length : Int) := by rw [tx_size]
  have hlen : l.length ≤ 2147483648 := hl
  have HNN := Lib.hid hn
  obtain ⟨R, hR⟩ : ∃ R, (if P = true then K.drop n else K) = R := ⟨_, rfl⟩
  rw [hR]
  have HRR := Lib.hid hR
  clear h hK hB hl hn hR
  go_enter Tryd.func29, Tryd.ntmps29
  go_wp2_with ((go_at_call 17; (with_reducible refine HS.out.mono ?_); rintro e w1 ⟨rfl, hq, hb⟩))
  obtain ⟨i, hB, hd, hi⟩ := hq
  have HB := Lib.hid hB
  have HBW := Lib.hid hb
  obtain ⟨c0, c1, -, c3, -, hfz⟩ := rf_cell hB
  have f1 := hfz 1
  have hKl : K.length = l.length - i := by rw [← hd, List.length_drop]
  have e9 : IntKind.i64.wrap ((i : Int) + (n : Int)) = (i : Int) + (n : Int) := IntWalk.i64_in _ ⟨by omega, by omega⟩
  clear hfz hB hb
  cases f with
  | true =>
    have hPf : P = false := by rw [← hP]; rfl
    have HR := Lib.hid (And.intro hd (And.intro hi hPf))
    clear hP hPf hd hi hKl hlen ht e9
    go_wp2_with fail
    go_quiet (fail)
    go_wp2_with fail
    go_ret
    exact ⟨by rw [HR.out.2.2]; rfl, ⟨i, HB.out, by rw [← HRR.out, HR.out.2.2]; exact HR.out.1, HR.out.2.1⟩, by (repeat refine rf_drewN ?_ _); exact HBW.out⟩
  | false =>
    rw [Bool.not_false, Bool.true_and, pre_take] at hP
    by_cases hlt : l.length < i + n
    · have hPf : P = false := by
        rw [← hP, decide_eq_false_iff_not]
        intro e
        have := congrArg List.length e
        rw [List.length_take, HNN.out] at this
        omega
      have HR := Lib.hid (And.intro hd (And.intro hi hPf))
      have hgt : decide ((l.length : Int) < (i : Int) + (n : Int)) = true := by simp; omega
      clear hP hPf hd hi hKl hlen ht hlt
      go_wp2_with fail
      go_quiet (fail)
      go_wp2_with fail
      go_ret
      exact ⟨by rw [HR.out.2.2]; rfl, ⟨i, HB.out, by rw [← HRR.out, HR.out.2.2]; exact HR.out.1, HR.out.2.1⟩, by (repeat refine rf_drewN ?_ _); exact HBW.out⟩
    · have hgt : decide ((l.length : Int) < (i : Int) + (n : Int)) = false := by simp; omega
      have hx : (tx l).extract i (i + n) = tx (K.take n) := take_tx l K i n hd
      rw [HNN.out] at hP
      have g1 : (0 : Int) ≤ (i : Int) := by omega
      have g2 : (i : Int) ≤ (i : Int) + (n : Int) := by omega
      have g3 : (i : Int) + (n : Int) ≤ (l.length : Int) := by omega
      have g4 : ((i : Int) + (n : Int)).toNat = i + n := by omega
      have hq : ((tx (K.take n)).toList == (tx t).toList) = P := by
        rw [tx_toList, tx_toList, ← hP, Bool.eq_iff_iff]; simp
      have HR := Lib.hid (And.intro hd (And.intro hi (show l.drop (i + n) = K.drop n by rw [← hd, List.drop_drop])))
      have HI := Lib.hid (show i + n ≤ l.length by omega)
      clear hP hd hi hKl hlen ht hlt
      cases P
      · go_wp2_with fail
        go_quiet (fail)
        go_wp2_with fail
        go_ret
        exact ⟨rfl, ⟨i, HB.out, by rw [← HRR.out]; exact HR.out.1, HR.out.2.1⟩, by (repeat refine rf_drewN ?_ _); exact HBW.out⟩
      · go_wp2_with fail
        go_quiet (fail)
        go_wp2_with fail
        go_ret
        exact ⟨rfl, ⟨i + n, by rw [show ((i + n : Nat) : Int) = (i : Int) + (n : Int) by omega]; exact rf_set1 HB.out _, by rw [← HRR.out]; exact HR.out.2.2, HI.out⟩, rf_below (by (repeat refine rf_drewN ?_ _); exact HBW.out)⟩
end
end Go.Proofs.YtlgbfhjbfolibaaDoor
