/-
  Proved: the statements' own Reader takes a text just as the plain functions textV, textOk, textRest say, and so as net's does. Conditions: at most 2^47 bytes are left.
-/
import Derived.Test.YtilplpjdbkipoaaDoorNetRAny
namespace Go.Proofs.YtilplpjdbkipoaaDoor.NetP
open Go Go.Shelf Go.RowKit NetMath NetMem

theorem num_facts (l : List UInt8) : (numOk l = false → textOf l = none) ∧ (numOk l = true → (numRest l).length ≤ l.length ∧
    textOf l = if numV l < 0 ∨ ((numRest l).length : Int) < numV l then none else some ((numRest l).take (numV l).toNat, (numRest l).drop (numV l).toNat)) := by
  unfold numOk numV numRest textOf
  cases hf : firstN l with
  | none => exact ⟨fun _ => rfl, (fun h => by cases h)⟩
  | some x =>
    obtain ⟨n, k⟩ := x
    refine ⟨(fun h => by cases h), fun _ => ⟨by simp, ?_⟩⟩
    simp only [List.length_drop]

set_option maxHeartbeats 4000000 in
set_option maxRecDepth 100000 in
/-- Where no text comes next: nothing is taken. -/
theorem reft_no (r : Nat) (l : List UInt8) (hl : l.length ≤ 140737488355328) (w : World) (h : Rd 59 w r l) (hno : numOk l = false ∨ (numOk l = true ∧ (numV l < 0 ∨ ((numRest l).length : Int) < numV l))) :
    Calls Tryd.prog 31 #[.pointer (some ⟨r, 0, none⟩)] w fun e w' => e = .returned (.tuple #[.string ⟨#[]⟩, .bool false]) ∧ Rd 59 w' r l ∧ Kept r w w' := by
  have HN := Lib.hid (refr_any r l hl w h)
  obtain ⟨v, hR, hv⟩ := h
  obtain ⟨p, cap, hv0, -⟩ := id hv
  subst hv0
  obtain ⟨hcell, hfree, hlt0⟩ := Rd.cell hR
  have HR := Lib.hid hR
  have HV := Lib.hid hv
  clear hR hv
  generalize numV l = n at HN hno
  generalize hmm : numRest l = m at HN hno
  clear hmm
  rcases hno with hok | ⟨hok, hneg | hlong⟩
  · rw [hok] at HN
    clear hok
    go_enter Tryd.func31, Tryd.ntmps31
    go_wp2_with fail
    refine HN.out.mono ?_
    rintro e w1 ⟨rfl, ⟨v1, hR1, hV1⟩, hk1⟩
    obtain ⟨p1, cap1, hv1, -⟩ := id hV1
    subst hv1
    obtain ⟨hcell1, hfree1, -⟩ := Rd.cell hR1
    have HR1 := Lib.hid hR1
    have HK := Lib.hid hk1
    have HVV := Lib.hid (Row.kept HR.out hk1 HV.out)
    clear hR1 hV1 hk1 hcell hfree HN
    go_wp2_with fail
    all_goals
      go_ret2
      exact ⟨rfl, ⟨_, Rd.set HR1.out, Row.kept HR1.out (Kept.set _ _ _) HVV.out⟩, HK.out.trans (Kept.set _ _ _)⟩
  · rw [hok] at HN
    clear hok
    go_enter Tryd.func31, Tryd.ntmps31
    go_wp2_with fail
    refine HN.out.mono ?_
    rintro e w1 ⟨rfl, ⟨v1, hR1, hV1⟩, hk1⟩
    obtain ⟨p1, cap1, hv1, -⟩ := id hV1
    subst hv1
    obtain ⟨hcell1, hfree1, -⟩ := Rd.cell hR1
    have HR1 := Lib.hid hR1
    have HK := Lib.hid hk1
    have HVV := Lib.hid (Row.kept HR.out hk1 HV.out)
    clear hR1 hV1 hk1 hcell hfree HN
    go_wp2_with fail
    all_goals
      go_ret2
      exact ⟨rfl, ⟨_, Rd.set HR1.out, Row.kept HR1.out (Kept.set _ _ _) HVV.out⟩, HK.out.trans (Kept.set _ _ _)⟩
  · rw [hok] at HN
    clear hok
    have hnn : ¬ n < 0 := by omega
    have hnD : decide (n < 0) = false := by simpa using hnn
    go_enter Tryd.func31, Tryd.ntmps31
    go_wp2_with fail
    refine HN.out.mono ?_
    rintro e w1 ⟨rfl, ⟨v1, hR1, hV1⟩, hk1⟩
    obtain ⟨p1, cap1, hv1, -⟩ := id hV1
    subst hv1
    obtain ⟨hcell1, hfree1, -⟩ := Rd.cell hR1
    have HR1 := Lib.hid hR1
    have HK := Lib.hid hk1
    have HVV := Lib.hid (Row.kept HR.out hk1 HV.out)
    clear hR1 hV1 hk1 hcell hfree HN
    go_wp2_with fail
    all_goals
      go_ret2
      exact ⟨rfl, ⟨_, Rd.set HR1.out, Row.kept HR1.out (Kept.set _ _ _) HVV.out⟩, HK.out.trans (Kept.set _ _ _)⟩

set_option maxHeartbeats 4000000 in
set_option maxRecDepth 100000 in
/-- Where one comes next. -/
theorem reft_yes (r : Nat) (l : List UInt8) (hl : l.length ≤ 140737488355328) (w : World) (h : Rd 59 w r l) (hok : numOk l = true) (q : Nat) (hq : numV l = (q : Int)) (m : List UInt8) (hmm : numRest l = m) (hqm : q ≤ m.length) :
    Calls Tryd.prog 31 #[.pointer (some ⟨r, 0, none⟩)] w fun e w' => e = .returned (.tuple #[.string ⟨(m.take q).toArray⟩, .bool true]) ∧ Rd 59 w' r (m.drop q) ∧ Kept r w w' := by
  have HN := refr_any r l hl w h
  rw [hok, hq, hmm] at HN
  have HN := Lib.hid HN
  obtain ⟨v, hR, hv⟩ := h
  obtain ⟨p, cap, hv0, -⟩ := id hv
  subst hv0
  obtain ⟨hcell, hfree, hlt0⟩ := Rd.cell hR
  clear hR hv hok hq hmm
  obtain ⟨t, ht⟩ : ∃ t, (m.take q).toArray = t := ⟨_, rfl⟩
  rw [ht]
  have HTT := Lib.hid ht
  clear ht
  have hq0 : ¬ ((q : Int) < 0) := by omega
  have hqD : decide ((q : Int) < 0) = false := by simp
  have hq1 : ¬ ((m.length : Int) < (q : Int)) := by omega
  have hq2 : decide ((m.length : Int) < (q : Int)) = false := by simpa using hq1
  have hqI : (q : Int) ≤ (m.length : Int) := by omega
  go_enter Tryd.func31, Tryd.ntmps31
  go_wp2_with fail
  refine HN.out.mono ?_
  rintro e w1 ⟨rfl, ⟨v1, hR1, hV1⟩, hk1⟩
  obtain ⟨p1, cap1, hv1, -⟩ := id hV1
  subst hv1
  obtain ⟨hcell1, hfree1, -⟩ := Rd.cell hR1
  obtain ⟨hlc1, hcm1⟩ := Row.le w1 hV1
  have hqc : q ≤ cap1 := by omega
  have hqcI : (q : Int) ≤ (cap1 : Int) := by omega
  have hconv := Row.convert (Row.take hV1 q hqm)
  have HR1 := Lib.hid hR1
  have HK := Lib.hid hk1
  have HD := Lib.hid (Row.drop hV1 q hqm)
  have hform : cap1 = 0 ∨ ∃ b o, p1 = some ⟨b, o, none⟩ := by
    rcases Nat.eq_zero_or_pos cap1 with h0 | h0
    · exact .inl h0
    · obtain ⟨b, o, hp, -⟩ := (Row.nums hV1).2.2.2 h0
      exact .inr ⟨b, o, hp⟩
  have HF := Lib.hid hform
  clear hR1 hV1 hk1 hcell hfree HN hform
  rw [HTT.out] at hconv
  rcases HF.out with h0 | ⟨b, o, hp⟩
  · subst h0
    have hq00 : q = 0 := by omega
    subst hq00
    have hm0 : m.length = 0 := by omega
    cases p1 with
    | none =>
      clear HF hqcI hqc hlc1
      go_wp2_with fail
      all_goals
        go_ret2
        refine ⟨rfl, ⟨_, Rd.set HR1.out, ?_⟩, HK.out.trans (Kept.set _ _ _)⟩
        have hd := HD.out
        rw [if_pos trivial, hm0] at hd
        exact Row.kept HR1.out (Kept.set _ _ _) hd
    | some a =>
      clear HF hqcI hqc hlc1
      go_wp2_with fail
      all_goals
        go_ret2
        refine ⟨rfl, ⟨_, Rd.set HR1.out, ?_⟩, HK.out.trans (Kept.set _ _ _)⟩
        have hd := HD.out
        rw [if_pos trivial, hm0] at hd
        exact Row.kept HR1.out (Kept.set _ _ _) hd
  · subst hp
    clear HF
    go_wp2_with fail
    all_goals
      go_ret2
      refine ⟨rfl, ⟨_, Rd.set HR1.out, ?_⟩, HK.out.trans (Kept.set _ _ _)⟩
      have hd := HD.out
      first
        | rw [if_pos ‹cap1 = q›, show cap1 - q = 0 by omega] at hd
        | rw [if_neg ‹¬cap1 = q›, Option.map_some, Lib.add_plain] at hd
      exact Row.kept HR1.out (Kept.set _ _ _) hd

/-- WHAT THE OTHER Reader's Text ANSWERS AND LEAVES. -/
theorem reft_any (r : Nat) (l : List UInt8) (hl : l.length ≤ 140737488355328) (w : World) (h : Rd 59 w r l) :
    Calls Tryd.prog 31 #[.pointer (some ⟨r, 0, none⟩)] w fun e w' => e = .returned (.tuple #[.string ⟨(textV l).toArray⟩, .bool (textOk l)]) ∧ Rd 59 w' r (textRest l) ∧ Kept r w w' := by
  obtain ⟨hf1, hf2⟩ := num_facts l
  unfold textV textOk textRest
  cases hok : numOk l with
  | false =>
    rw [hf1 hok]
    exact reft_no r l hl w h (.inl hok)
  | true =>
    obtain ⟨hle, he⟩ := hf2 hok
    rw [he]
    by_cases hc : numV l < 0 ∨ ((numRest l).length : Int) < numV l
    · rw [if_pos hc]
      exact reft_no r l hl w h (.inr ⟨hok, hc⟩)
    · rw [if_neg hc]
      obtain ⟨q, hq⟩ : ∃ q : Nat, numV l = (q : Int) := ⟨(numV l).toNat, by omega⟩
      rw [hq, Int.toNat_natCast]
      exact reft_yes r l hl w h hok q hq _ rfl (by omega)
end Go.Proofs.YtilplpjdbkipoaaDoor.NetP
