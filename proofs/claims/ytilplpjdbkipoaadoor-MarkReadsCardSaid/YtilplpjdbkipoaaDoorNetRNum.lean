/-
  Proved: the statements' own Reader takes a number just as net's does. Conditions: at most 2^47 bytes are left.
-/
import Derived.Test.YtilplpjdbkipoaaDoorNetRef
import Derived.LoopTactic
import Derived.Lib.Hide
import Derived.Deep.DeepCutAuto
import Derived.Deep.CutBlock
import Derived.Deep.QuietTactic
import Derived.BigQuiet
import Derived.Outline
namespace Go.Proofs.YtilplpjdbkipoaaDoor.NetP
open Go Go.Shelf Go.RowKit NetMath NetMem

def isDig (l : List UInt8) (k : Nat) : Bool := decide (k < l.length) && (decide (48 ≤ (l.getD k 0).toNat) && (decide ((l.getD k 0).toNat ≤ 57) && decide (k < 21)))
def dstep (n : Int) (c : UInt8) : Int := IntKind.u64.wrap (IntKind.u64.wrap (10 * n) + ((c.toNat : Int) - 48))
/-- The number that digits spell from place k on, in a uint64. -/
def scanF (l : List UInt8) : Nat → Nat → Int → Int
  | 0, _, n => n
  | f + 1, k, n => if isDig l k then scanF l f (k + 1) (dstep n (l.getD k 0)) else n

theorem scanF_step (l : List UInt8) (k : Nat) (m : Int) (hk : isDig l k = true) (h21 : k < 21) : scanF l (21 - k) k m = scanF l (21 - (k + 1)) (k + 1) (dstep m (l.getD k 0)) := by
  obtain ⟨f, hf⟩ : ∃ f, 21 - k = f + 1 := ⟨20 - k, by omega⟩
  rw [hf, show 21 - (k + 1) = f by omega]
  simp only [scanF]
  rw [if_pos hk]
theorem scanF_stop (l : List UInt8) (k : Nat) (m : Int) (hk : isDig l k = false) : scanF l (21 - k) k m = m := by
  cases h : 21 - k with
  | zero => rfl
  | succ f => simp only [scanF]; rw [if_neg (by rw [hk]; decide)]
theorem isDig_yes {l : List UInt8} {k c : Nat} (hk : k < l.length) (hc : l[k].toNat = c) (h1 : 48 ≤ c) (h2 : c ≤ 57) (h3 : k < 21) : isDig l k = true := by
  have e : l.getD k 0 = l[k] := by simp [List.getD, hk]
  unfold isDig
  rw [e, hc]
  simp [hk, h1, h2, h3]
theorem isDig_no {l : List UInt8} {k : Nat} (h : l.length ≤ k ∨ (∃ hk : k < l.length, l[k].toNat < 48 ∨ 57 < l[k].toNat) ∨ 21 ≤ k) : isDig l k = false := by
  unfold isDig
  rcases h with h | ⟨hk, h⟩ | h
  · simp; omega
  · have e : l.getD k 0 = l[k] := by simp [List.getD, hk]
    rw [e]
    simp
    omega
  · simp; omega
theorem dstep_c (m : Int) {l : List UInt8} {k c : Nat} (hk : k < l.length) (hc : l[k].toNat = c) : dstep m (l.getD k 0) = IntKind.u64.wrap (IntKind.u64.wrap (10 * m) + ((c : Int) - 48)) := by
  have e : l.getD k 0 = l[k] := by simp [List.getD, hk]
  unfold dstep
  rw [e, hc]
theorem u64_range (x : Int) : 0 ≤ IntKind.u64.wrap x ∧ IntKind.u64.wrap x ≤ 18446744073709551615 := by
  simp [IntKind.wrap, IntKind.bits, IntKind.signed]; omega

theorem below_drewN (B : Nat) (w : World) (n : Nat) : Below B w (w.drewN n) := ⟨rfl, rfl, rfl, Nat.le_refl _, fun _ _ => rfl⟩

theorem refnum_z (V : Int) (hV : I64 V) (z : Int) (hz : z = V) (N : Nat) (hN : (numB V).length = N) (w : World) :
    Calls Tryd.prog 28 #[.int .i64 z] w fun e w' => ∃ p c, e = .returned (.slice p N c) ∧ Row w' (.slice p N c) (numB V) ∧ Below w.heap.size w w' := by
  subst hz
  subst hN
  exact (refnum_any z hV w).mono fun e w' ⟨v, he, ho, hb⟩ => by
    obtain ⟨p, c, hv, -⟩ := id ho.row
    subst hv
    exact ⟨p, c, he, ho.row, hb⟩

set_option maxHeartbeats 8000000 in
set_option maxRecDepth 100000 in
theorem refr_pos (neg : Bool) (i0 : Nat) (hi0 : i0 = if neg then 1 else 0) (r : Nat) (l : List UInt8) (hl : l.length ≤ 140737488355328) (b o cap : Nat) (w : World) (hR : w.heap[r]? = some (.cells #[.slice (some ⟨b, o, none⟩) l.length cap] 59 (0, 0)))
    (hrow : Row w (.slice (some ⟨b, o, none⟩) l.length cap) l) (hpos : 0 < l.length) (c0 : Nat) (hc0 : l[0].toNat = c0) (h45 : ((c0 : Int) == 45) = neg) (F : Int) (hF : scanF l (21 - i0) i0 0 = F)
    (V : Int) (hV : (if neg then wrap64 (-wrap64 F) else wrap64 F) = V) (hI : I64 V) (N : Nat) (hN : (numB V).length = N) :
    Calls Tryd.prog 30 #[.pointer (some ⟨r, 0, none⟩)] w fun e w' => e = .returned (.tuple #[.int .i64 (if numB V == l.take N then V else 0), .bool (numB V == l.take N)]) ∧
      Rd 59 w' r (if numB V == l.take N then l.drop N else l) ∧ Kept r w w' := by
  obtain ⟨hcell, hfree, hlt0⟩ := Rd.cell hR
  obtain ⟨hlc, hcm⟩ := Row.le w hrow
  have hcs : ∀ i (h : i < l.length), w.cell? ⟨b, o + i, none⟩ = some (.int .u8 (l[i].toNat : Int)) := by
    obtain ⟨b', o', hp, hcc⟩ := (Row.nums hrow).2.2.2 (by omega)
    simp only [Option.some.injEq, Addr.mk.injEq, and_true] at hp
    obtain ⟨rfl, rfl⟩ := hp
    exact hcc
  have HR := Lib.hid hR
  have HROW := Lib.hid hrow
  have HV := Lib.hid hV
  have HI := Lib.hid hI
  have HN := Lib.hid hN
  have HLL := Lib.hid hl
  clear hR hrow hV hI hN hl
  have hcell0 : w.cell? ⟨b, o, none⟩ = some (.int .u8 (c0 : Int)) := by have := hcs 0 hpos; rw [Nat.add_zero, hc0] at this; exact this
  have hposI : (0 : Int) < (l.length : Int) := by omega
  have HC := Lib.hid hcs
  have HC0 := Lib.hid hc0
  have HF := Lib.hid hF
  clear hcs hc0 hF
  cases neg
  all_goals
    simp only [if_true, if_false, Bool.false_eq_true] at hi0
    have HV2 := Lib.hid HV.out
    simp only [if_true, if_false, Bool.false_eq_true, Hid] at HV2
    have HVV := Lib.hid HV2
    clear HV2 HV
    subst hi0
    go_enter Tryd.func30, Tryd.ntmps30
    go_upto_block 0 with (fail)
    go_cut [6] (fun n wx => n = .int .u64 F ∧ wx = w)
    case first =>
      go_wp2_with fail
      go_loop [4, 6] (fun i n => ∃ k : Nat, ∃ m : Int, k ≤ l.length ∧ k ≤ 21 ∧ i = .int .i64 k ∧ n = .int .u64 m ∧ 0 ≤ m ∧ m ≤ 18446744073709551615 ∧ scanF l (21 - k) k m = F) (fun i _ => 21 - (intOf i).toNat)
      case atStart => first | exact ⟨0, 0, by omega, by omega, rfl, rfl, by omega, by omega, HF.out⟩ | exact ⟨1, 0, by omega, by omega, rfl, rfl, by omega, by omega, HF.out⟩
      case round =>
        obtain ⟨k, m, hk, hk21, rfl, rfl, hm0, hm1, hsc⟩ := hrel
        have HSC := Lib.hid hsc
        clear hsc
        by_cases hdig : isDig l k = true
        · have hd := hdig
          unfold isDig at hd
          simp only [Bool.and_eq_true, decide_eq_true_eq] at hd
          obtain ⟨hlt, hd1, hd2, h3⟩ := hd
          have e : l.getD k 0 = l[k] := by simp [List.getD, hlt]
          rw [e] at hd1 hd2
          obtain ⟨c, hc⟩ : ∃ c : Nat, l[k].toNat = c := ⟨_, rfl⟩
          rw [hc] at hd1 hd2
          have hck : w.cell? ⟨b, o + k, none⟩ = some (.int .u8 (c : Int)) := by rw [HC.out k hlt, hc]
          have HCK := Lib.hid hc
          have HD := Lib.hid hdig
          have hltI : (k : Int) < (l.length : Int) := by omega
          have h1I : (48 : Int) ≤ (c : Int) := by omega
          have h2I : (c : Int) ≤ 57 := by omega
          have h3I : (k : Int) < 21 := by omega
          clear hc hdig e
          go_wp2_with fail
          go_round
          case rel =>
            have hr := u64_range (IntKind.u64.wrap (10 * m) + ((c : Int) - 48))
            exact ⟨k + 1, _, by omega, by omega, by go_num, rfl, hr.1, hr.2, by rw [← dstep_c m hlt HCK.out, ← scanF_step l k m HD.out h3]; exact HSC.out⟩
          case measure => simp [intOf]; omega
        · have hno : isDig l k = false := by simpa using hdig
          have hmF : m = F := by rw [← HSC.out, scanF_stop l k m hno]
          subst hmF
          have hfour : (l.length : Int) ≤ (k : Int) ∨ (k < l.length ∧ 21 ≤ k) ∨ ∃ c : Nat, k < l.length ∧ k < 21 ∧ w.cell? ⟨b, o + k, none⟩ = some (.int .u8 (c : Int)) ∧ (c < 48 ∨ (48 ≤ c ∧ 57 < c)) := by
            by_cases hlt : k < l.length
            · by_cases h21 : k < 21
              · refine .inr (.inr ⟨l[k].toNat, hlt, h21, HC.out k hlt, ?_⟩)
                by_cases h48 : l[k].toNat < 48
                · exact .inl h48
                · by_cases h57 : l[k].toNat ≤ 57
                  · rw [isDig_yes hlt rfl (by omega) h57 h21] at hno; cases hno
                  · exact .inr ⟨by omega, by omega⟩
              · exact .inr (.inl ⟨hlt, by omega⟩)
            · exact .inl (by omega)
          clear hno hdig HSC
          have hltI : k < l.length → (k : Int) < (l.length : Int) := fun h => by omega
          rcases hfour with hge | ⟨hlt, h21⟩ | ⟨c, hlt, h21, hck, h48 | ⟨h48, h57⟩⟩
          · go_wp2_with fail
            go_meet
            exact ⟨rfl, rfl⟩
          · have hk21e : k = 21 := by omega
            have h3D : decide ((k : Int) < 21) = false := by simp; omega
            have h3I : ¬ ((k : Int) < 21) := by omega
            have hltI2 := hltI hlt
            have hck := HC.out k hlt
            generalize l[k].toNat = c at hck
            clear hk21e hltI
            by_cases h48 : (48 : Int) ≤ (c : Int)
            · by_cases h57 : (c : Int) ≤ 57
              · go_wp2_with fail
                go_meet
                exact ⟨rfl, rfl⟩
              · have h2D : decide ((c : Int) ≤ 57) = false := by simpa using h57
                go_wp2_with fail
                go_meet
                exact ⟨rfl, rfl⟩
            · have h1D : decide ((48 : Int) ≤ (c : Int)) = false := by simpa using h48
              go_wp2_with fail
              go_meet
              exact ⟨rfl, rfl⟩
          · have hltI2 := hltI hlt
            have h1I : ¬ ((48 : Int) ≤ (c : Int)) := by omega
            have h1D : decide ((48 : Int) ≤ (c : Int)) = false := by simpa using h1I
            clear hltI
            go_wp2_with fail
            go_meet
            exact ⟨rfl, rfl⟩
          · have hltI2 := hltI hlt
            have h1I : (48 : Int) ≤ (c : Int) := by omega
            have h2I : ¬ ((c : Int) ≤ 57) := by omega
            have h2D : decide ((c : Int) ≤ 57) = false := by simpa using h2I
            clear hltI
            go_wp2_with fail
            go_meet
            exact ⟨rfl, rfl⟩
    case rest =>
      obtain ⟨rfl, hwc⟩ := hcut
      subst hwc
      clear hcell0 h45 hposI
      go_wp2_with fail
      refine (refnum_z V HI.out _ HVV.out N HN.out _).mono ?_
      rintro e w1 ⟨p1, k1, rfl, hrow1, hb1⟩
      have hc1 : w1.cell? ⟨r, 0, none⟩ = some (.slice (some ⟨b, o, none⟩) l.length cap) := by rw [hb1.cell (p := ⟨r, 0, none⟩) hlt0]; exact hcell
      have hf1 : w1.frozen? ⟨r, 0, none⟩ = false := by rw [hb1.frozen (p := ⟨r, 0, none⟩) hlt0]; exact hfree
      have HR1 := Lib.hid ((hb1.block r hlt0).trans HR.out)
      have HK := Lib.hid (Kept.of_below (r := r) hb1)
      have HROW1 := Lib.hid (HROW.out.below hb1)
      have HP1 := Lib.hid hrow1
      clear hb1 hrow1 hcell hfree
      by_cases hA : l.length < N
      · have hAI : (l.length : Int) < (N : Int) := by omega
        have hne : (numB V == l.take N) = false := by
          rw [beq_eq_false_iff_ne]
          intro h
          have := congrArg List.length h
          rw [HN.out, List.length_take] at this; omega
        go_wp2_with fail
        go_quiet (fail)
        go_wp2_with fail
        all_goals
          go_ret2
          exact ⟨rfl, ⟨_, HR1.out, Row.below HROW1.out (below_drewN _ _ _)⟩, HK.out.trans (Kept.of_below (below_drewN _ _ _))⟩
      · have hAI : ¬ ((l.length : Int) < (N : Int)) := by omega
        have hAD : decide ((l.length : Int) < (N : Int)) = false := by simpa using hAI
        have hNI : (N : Int) ≤ (cap : Int) := by omega
        have hNc : N ≤ cap := by omega
        obtain ⟨x, hx⟩ : ∃ x : ByteArray, (⟨(numB V).toArray⟩ : ByteArray) = x := ⟨_, rfl⟩
        obtain ⟨y, hy⟩ : ∃ y : ByteArray, (⟨(l.take N).toArray⟩ : ByteArray) = y := ⟨_, rfl⟩
        have hcp : ∀ nq : Nat, (convert 26 9 (.slice p1 N k1)).run Tryd.prog (w1.drewN nq) = .ok (.string x) (w1.drewN nq) := fun nq => by
          rw [← hx]; exact Row.convert (Row.below HP1.out (below_drewN _ _ nq))
        have hcl : ∀ nq : Nat, (convert 26 9 (.slice (some ⟨b, o, none⟩) N cap)).run Tryd.prog (w1.drewN nq) = .ok (.string y) (w1.drewN nq) := fun nq => by
          rw [← hy]; exact Row.convert (Row.take (Row.below HROW1.out (below_drewN _ _ nq)) N (by omega))
        by_cases hB : numB V = l.take N
        · have hbe : (numB V == l.take N) = true := by simpa using hB
          have hxy : x = y := by rw [← hx, ← hy, hB]
          subst hxy
          have HD := Lib.hid (Row.drop HROW1.out N (by omega))
          clear hx hy hB
          go_wp2_with fail
          go_quiet (fail)
          go_wp2_with fail
          all_goals
            go_ret2
            refine ⟨congrArg (fun z => Ending.returned (.tuple #[.int .i64 z, .bool true])) HVV.out, ⟨_, Rd.set HR1.out, ?_⟩, (HK.out.trans (Kept.of_below (below_drewN _ _ _))).trans (Kept.set _ _ _)⟩
            have hd := HD.out
            first
              | rw [if_pos ‹cap = N›, show cap - N = 0 by omega] at hd
              | rw [if_neg ‹¬cap = N›, Option.map_some, Lib.add_plain] at hd
            exact Row.kept (w := w1.drewN nq) HR1.out (Kept.set _ _ _) (Row.below hd (below_drewN _ _ nq))
        · have hbe : (numB V == l.take N) = false := by simpa using hB
          have hxl : (y.toList == x.toList) = false := by
            rw [← hx, ← hy, ByteArray.toList_mk, ByteArray.toList_mk, beq_eq_false_iff_ne]
            exact fun h => hB h.symm
          clear hx hy hB
          go_wp2_with fail
          go_quiet (fail)
          go_wp2_with fail
          all_goals
            go_ret2
            exact ⟨rfl, ⟨_, HR1.out, Row.below HROW1.out (below_drewN _ _ _)⟩, HK.out.trans (Kept.of_below (below_drewN _ _ _))⟩
end Go.Proofs.YtilplpjdbkipoaaDoor.NetP
