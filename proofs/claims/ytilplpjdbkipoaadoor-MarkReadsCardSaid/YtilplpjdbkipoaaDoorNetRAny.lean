/-
  Proved: the statements' own Reader takes a number just as the plain functions numV, numOk, numRest say, and so as net's does. Conditions: at most 2^47 bytes are left.
-/
import Derived.Test.YtilplpjdbkipoaaDoorNetRNum
import Derived.Deep.RegionHeld3
import Derived.Lib.ConvBytes
namespace Go.Proofs.YtilplpjdbkipoaaDoor.NetP
open Go Go.Shelf Go.RowKit NetMath NetMem

theorem numB_zero : numB 0 = [48, 59] := by
  unfold numB
  rw [show (0 : Int) = ((0 : Nat) : Int) from rfl, Lib.itoa_nonneg, decDigits_small (by omega)]; rfl

theorem scanF_digits : ∀ (D pre rest : List UInt8) (n : Int), (∀ c ∈ D, 48 ≤ c.toNat ∧ c.toNat ≤ 57) → pre.length + D.length ≤ 20 → 0 ≤ n → val n.toNat D < 18446744073709551616 →
    scanF (pre ++ (D ++ 59 :: rest)) (21 - pre.length) pre.length n = (val n.toNat D : Int)
  | [], pre, rest, n, _, _, h0, _ => by
    rw [scanF_stop]
    · rw [val_nil]; omega
    · apply isDig_no
      right; left
      refine ⟨by simp, ?_⟩
      right
      rw [List.getElem_append_right (Nat.le_refl _)]
      simp
  | c :: D, pre, rest, n, hd, hl, h0, hv => by
    have hc := hd c (by simp)
    have hk : pre.length < (pre ++ (c :: D ++ 59 :: rest)).length := by simp
    have hget : (pre ++ (c :: D ++ 59 :: rest))[pre.length] = c := by
      rw [List.getElem_append_right (Nat.le_refl _)]; simp
    have hdig : isDig (pre ++ (c :: D ++ 59 :: rest)) pre.length = true := isDig_yes hk rfl (by rw [hget]; exact hc.1) (by rw [hget]; exact hc.2) (by simp at hl; omega)
    rw [val_cons] at hv
    have hm := val_mono D (10 * n.toNat + dv c)
    have hdv : (dv c : Int) = (c.toNat : Int) - 48 := by unfold dv; omega
    have hst : dstep n ((pre ++ (c :: D ++ 59 :: rest)).getD pre.length 0) = ((10 * n.toNat + dv c : Nat) : Int) := by
      rw [dstep_c n hk rfl, hget]
      rw [IntWalk.u64_in (10 * n) (by omega), IntWalk.u64_in _ (by omega)]
      omega
    rw [scanF_step _ _ _ hdig (by simp at hl; omega), hst, val_cons]
    have ih := scanF_digits D (pre ++ [c]) rest ((10 * n.toNat + dv c : Nat) : Int) (fun x hx => hd x (by simp [hx])) (by simp at hl ⊢; omega) (by omega) (by rw [Int.toNat_natCast]; exact hv)
    rw [Int.toNat_natCast, List.append_assoc, List.length_append] at ih
    exact ih

/-- The candidate that the other text reckons. -/
def cand (l : List UInt8) : Int :=
  if l.head? = some 45 then wrap64 (-wrap64 (scanF l 20 1 0)) else wrap64 (scanF l 21 0 0)

theorem wrap64_I (x : Int) : I64 (wrap64 x) := by
  unfold RowKit.wrap64 I64; omega
theorem cand_I (l : List UInt8) : I64 (cand l) := by
  unfold cand
  split <;> exact wrap64_I _

theorem cand_of (l : List UInt8) (n : Int) (hn : I64 n) (h : numB n = l.take (numB n).length) : cand l = n := by
  obtain ⟨h0, h1⟩ := hn
  obtain ⟨rest, hr⟩ : ∃ rest, l = numB n ++ rest := ⟨l.drop (numB n).length, by conv => lhs; rw [← List.take_append_drop (numB n).length l]; rw [← h]⟩
  subst hr
  clear h
  by_cases hneg : n < 0
  · obtain ⟨u, rfl⟩ : ∃ u : Nat, n = -(u : Int) := ⟨n.natAbs, by omega⟩
    have hu : 1 ≤ u ∧ u ≤ 9223372036854775808 := by omega
    have el : numB (-(u : Int)) ++ rest = [45] ++ (Lib.decDigits u ++ 59 :: rest) := by
      unfold numB
      rw [Lib.itoa_neg u hu.1]; simp
    rw [el]
    have hlen : (Lib.decDigits u).length ≤ 19 := by rw [Lib.decDigits_length]; exact nDigits_le19 u (by omega)
    have hs := scanF_digits (Lib.decDigits u) [45] rest 0 (decDigits_all u) (by simp; omega) (by omega) (by rw [Int.toNat_zero, val_decDigits]; omega)
    rw [Int.toNat_zero, val_decDigits] at hs
    unfold cand
    rw [if_pos (by simp)]
    have hs2 : scanF ([45] ++ (Lib.decDigits u ++ 59 :: rest)) 20 1 0 = (u : Int) := hs
    rw [hs2]
    unfold RowKit.wrap64
    omega
  · obtain ⟨u, rfl⟩ : ∃ u : Nat, n = (u : Int) := ⟨n.toNat, by omega⟩
    have el : numB (u : Int) ++ rest = [] ++ (Lib.decDigits u ++ 59 :: rest) := by
      unfold numB
      rw [Lib.itoa_nonneg]; simp
    have hlen : (Lib.decDigits u).length ≤ 20 := by rw [Lib.decDigits_length]; exact Lib.nDigits_le20 u (by omega)
    have hs := scanF_digits (Lib.decDigits u) [] rest 0 (decDigits_all u) (by simp; omega) (by omega) (by rw [Int.toNat_zero, val_decDigits]; omega)
    rw [Int.toNat_zero, val_decDigits, ← el] at hs
    have hs2 : scanF (numB (u : Int) ++ rest) 21 0 0 = (u : Int) := hs
    have hh : ¬ (numB (u : Int) ++ rest).head? = some 45 := by
      rw [el]
      intro hh
      have hne := decDigits_ne u
      have hall := decDigits_all u
      revert hh hne hall
      cases Lib.decDigits u with
      | nil => intro _ h _; exact absurd rfl h
      | cons c D =>
        intro hh _ hall
        simp at hh
        have := hall c (by simp)
        rw [hh] at this
        simp at this
    unfold cand
    rw [if_neg hh, hs2]
    unfold RowKit.wrap64
    omega

/-- What the plain functions say, by the candidate. -/
theorem by_cand (l : List UInt8) : numV l = (if numB (cand l) == l.take (numB (cand l)).length then cand l else 0) ∧ numOk l = (numB (cand l) == l.take (numB (cand l)).length) ∧
    numRest l = (if numB (cand l) == l.take (numB (cand l)).length then l.drop (numB (cand l)).length else l) := by
  have h := firstN_by l (cand l) (cand_I l) (fun n hn he => cand_of l n hn he)
  unfold numV numOk numRest
  rw [h]
  by_cases hc : numB (cand l) = l.take (numB (cand l)).length
  · have hb : (numB (cand l) == l.take (numB (cand l)).length) = true := by simpa using hc
    rw [if_pos hc, hb]; exact ⟨rfl, rfl, rfl⟩
  · have hb : (numB (cand l) == l.take (numB (cand l)).length) = false := by simpa using hc
    rw [if_neg hc, hb]; exact ⟨rfl, rfl, rfl⟩

set_option maxHeartbeats 4000000 in
set_option maxRecDepth 100000 in
theorem refr_none (r : Nat) (p : Option Addr) (cap : Nat) (w : World) (hR : w.heap[r]? = some (.cells #[.slice p 0 cap] 59 (0, 0))) (hrow : Row w (.slice p 0 cap) []) :
    Calls Tryd.prog 30 #[.pointer (some ⟨r, 0, none⟩)] w fun e w' => e = .returned (.tuple #[.int .i64 0, .bool false]) ∧ Rd 59 w' r [] ∧ Kept r w w' := by
  obtain ⟨hcell, hfree, hlt0⟩ := Rd.cell hR
  have HR := Lib.hid hR
  have HROW := Lib.hid hrow
  clear hR hrow
  go_enter Tryd.func30, Tryd.ntmps30
  go_upto_block 0 with (fail)
  go_cut [6] (fun n wx => n = .int .u64 0 ∧ wx = w)
  case first =>
    go_wp2_with fail
    go_loop [4, 6] (fun i n => i = .int .i64 0 ∧ n = .int .u64 0) (fun i _ => 21 - (intOf i).toNat)
    case atStart => exact ⟨rfl, rfl⟩
    case round =>
      obtain ⟨rfl, rfl⟩ := hrel
      go_wp2_with fail
      go_meet
      exact ⟨rfl, rfl⟩
  case rest =>
    obtain ⟨rfl, hwc⟩ := hcut
    subst hwc
    go_wp2_with fail
    refine (refnum_z 0 ⟨by omega, by omega⟩ _ (by rfl) 2 (by rw [numB_zero]; rfl) _).mono ?_
    rintro e w1 ⟨p1, k1, rfl, hrow1, hb1⟩
    have hc1 : w1.cell? ⟨r, 0, none⟩ = some (.slice p 0 cap) := by rw [hb1.cell (p := ⟨r, 0, none⟩) hlt0]; exact hcell
    have HR1 := Lib.hid ((hb1.block r hlt0).trans HR.out)
    have HK := Lib.hid (Kept.of_below (r := r) hb1)
    have HROW1 := Lib.hid (HROW.out.below hb1)
    clear hb1 hrow1 hcell hfree
    go_wp2_with fail
    go_quiet (fail)
    go_wp2_with fail
    all_goals
      go_ret2
      exact ⟨rfl, ⟨_, HR1.out, Row.below HROW1.out (below_drewN _ _ _)⟩, HK.out.trans (Kept.of_below (below_drewN _ _ _))⟩

/-- WHAT THE OTHER Reader's Num ANSWERS AND LEAVES. -/
theorem refr_any (r : Nat) (l : List UInt8) (hl : l.length ≤ 140737488355328) (w : World) (h : Rd 59 w r l) :
    Calls Tryd.prog 30 #[.pointer (some ⟨r, 0, none⟩)] w fun e w' => e = .returned (.tuple #[.int .i64 (numV l), .bool (numOk l)]) ∧ Rd 59 w' r (numRest l) ∧ Kept r w w' := by
  obtain ⟨v, hr, hv⟩ := h
  obtain ⟨p, cap, hv0, -⟩ := id hv
  subst hv0
  obtain ⟨hlc, -⟩ := Row.le w hv
  cases l with
  | nil => exact refr_none r p cap w hr hv
  | cons c t =>
    obtain ⟨b, o, hp, -⟩ := (Row.nums hv).2.2.2 (by simp at hlc; omega)
    subst hp
    obtain ⟨e1, e2, e3⟩ := by_cand (c :: t)
    rw [e1, e2, e3]
    have hI := cand_I (c :: t)
    by_cases hc : c = 45
    · have hcand : wrap64 (-wrap64 (scanF (c :: t) (21 - 1) 1 0)) = cand (c :: t) := by unfold cand; rw [if_pos (by simp [hc])]
      exact refr_pos true 1 rfl r (c :: t) hl b o cap w hr hv (by simp) c.toNat rfl (by rw [hc]; rfl) _ rfl _ (by simpa using hcand) hI _ rfl
    · have hcand : wrap64 (scanF (c :: t) (21 - 0) 0 0) = cand (c :: t) := by unfold cand; rw [if_neg (by simp [hc])]
      exact refr_pos false 0 rfl r (c :: t) hl b o cap w hr hv (by simp) c.toNat rfl (by
        have : c.toNat ≠ 45 := fun h => hc (UInt8.toNat_inj.1 h)
        simp; omega) _ rfl _ (by simpa using hcand) hI _ rfl
end Go.Proofs.YtilplpjdbkipoaaDoor.NetP
