/-
  Proved: texts joined: Proved: the statements' own package of chapter 1 puts the same bytes. Conditions: the number is an int64; the text is of at most 2^47 bytes less 32.
  Proved: the statements' own Reader takes a number just as net's does. Conditions: at most 2^47 bytes are left.
  Proved: the statements' own Reader takes a number just as the plain functions numV, numOk, numRest say, and so as net's does. Conditions: at most 2^47 bytes are left.
  Proved: the statements' own Reader takes a text just as the plain functions textV, textOk, textRest say, and so as net's does. Conditions: at most 2^47 bytes are left.
-/
import Derived.Test.YtilplpjdbkipoaaGreatDoorNetKeep
import Derived.IntWalk
import Derived.LoopTactic
import Derived.Lib.Hide
import Derived.Deep.DeepCutAuto
import Derived.Deep.CutBlock
import Derived.Deep.QuietTactic
import Derived.BigQuiet
import Derived.Outline
import Derived.Deep.RegionHeld3
import Derived.Lib.ConvBytes
namespace Go.Proofs.YtilplpjdbkipoaaGreatDoor.NetP
open Go Go.Shelf Go.RowKit NetMath NetMem

theorem digit_conv (u : Nat) (w : World) : (convert 56 9 (.slice (some ⟨w.heap.size, 0, none⟩) 1 1)).run Tryz.prog (w.alloc (.cells #[.int .u8 (48 + (u : Int) % 10)] 5)) =
    .ok (.string ⟨#[UInt8.ofNat (48 + u % 10)]⟩) (w.alloc (.cells #[.int .u8 (48 + (u : Int) % 10)] 5)) := by
  have hd := digit_toNat (d := u % 10) (by omega)
  have e : #[Value.int .u8 (48 + (u : Int) % 10)] = (Lib.byteCells [UInt8.ofNat (48 + u % 10)]).toArray := by
    simp only [Lib.byteCells, List.map_cons, List.map_nil]
    rw [hd]
    simp
  exact Row.convert (Row.lit w 5 [UInt8.ofNat (48 + u % 10)] _ (0, 0) e 1 rfl (by omega))

theorem nDig_le (u : Nat) (h : u < 18446744073709551616) : (Lib.decDigits u).length ≤ 20 := by rw [Lib.decDigits_length]; exact Lib.nDigits_le20 u h

theorem ba_append (a b : List UInt8) : (⟨a.toArray⟩ : ByteArray) ++ ⟨b.toArray⟩ = ⟨(a ++ b).toArray⟩ := by
  apply ByteArray.ext
  simp

set_option maxHeartbeats 2000000 in
set_option maxRecDepth 100000 in
theorem digits_step (u : Nat) (hu : u < 18446744073709551616) (w : World)
    (ih : 10 ≤ u → ∀ w1 : World, Calls Tryz.prog 85 #[.int .u64 ((u : Int) / 10)] w1 fun e w' => e = .returned (.string ⟨(Lib.decDigits (u / 10)).toArray⟩) ∧ Below w1.heap.size w1 w') :
    Calls Tryz.prog 85 #[.int .u64 (u : Int)] w fun e w' => e = .returned (.string ⟨(Lib.decDigits u).toArray⟩) ∧ Below w.heap.size w w' := by
  have hconv := digit_conv u w
  have hb := (Below.refl w.heap.size w).alloc (Nat.le_refl _) (.cells #[.int .u8 (48 + (u : Int) % 10)] 5)
  have HB := Lib.hid hb
  clear hb
  by_cases h10 : u < 10
  · have h1 : u % 10 = u := by omega
    have e : Lib.decDigits u = [UInt8.ofNat (48 + u)] := decDigits_small h10
    rw [h1] at hconv
    rw [e]
    clear ih e h1
    have h2 : ¬ ((10 : Int) ≤ (u : Int)) := by omega
    go_enter Tryz.func85, Tryz.ntmps85
    go_wp2_with fail
    go_ret
    exact ⟨rfl, HB.out⟩
  · have e : Lib.decDigits u = Lib.decDigits (u / 10) ++ [UInt8.ofNat (48 + u % 10)] := decDigits_big h10
    have h2 : (10 : Int) ≤ (u : Int) := by omega
    have HI := Lib.hid (ih (by omega))
    have hl := nDig_le (u / 10) (by omega)
    rw [e]
    clear ih e
    generalize Lib.decDigits (u / 10) = D at HI hl ⊢
    generalize UInt8.ofNat (48 + u % 10) = d at hconv ⊢
    go_enter Tryz.func85, Tryz.ntmps85
    go_wp2_with fail
    refine (HI.out _).mono ?_
    rintro x w1 ⟨rfl, hb1⟩
    have HB1 := Lib.hid (HB.out.trans (hb1.mono HB.out.size))
    clear hb1
    go_wp2_with fail
    go_ret
    refine ⟨?_, HB1.out⟩
    show Ending.returned (.string ((⟨D.toArray⟩ : ByteArray) ++ ⟨[d].toArray⟩)) = _
    rw [ba_append]

theorem digits_all (u : Nat) : ∀ (_ : u < 18446744073709551616) (w : World),
    Calls Tryz.prog 85 #[.int .u64 (u : Int)] w fun e w' => e = .returned (.string ⟨(Lib.decDigits u).toArray⟩) ∧ Below w.heap.size w w' := by
  induction u using Nat.strongRecOn with
  | _ u ih =>
    intro hu w
    refine digits_step u hu w (fun h w1 => ?_)
    have := ih (u / 10) (by omega) (by omega) w1
    rwa [show ((u / 10 : Nat) : Int) = (u : Int) / 10 by omega] at this

theorem digits_any (u : Nat) (hu : u < 18446744073709551616) (z : Int) (hz : z = (u : Int)) (w : World) :
    Calls Tryz.prog 85 #[.int .u64 z] w fun e w' => e = .returned (.string ⟨(Lib.decDigits u).toArray⟩) ∧ Below w.heap.size w w' := by
  subst hz
  exact digits_all u hu w

set_option maxHeartbeats 2000000 in
set_option maxRecDepth 100000 in
theorem itoa_any (n : Int) (hn : I64 n) (w : World) :
    Calls Tryz.prog 71 #[.int .i64 n] w fun e w' => e = .returned (.string ⟨(Lib.itoa n).toArray⟩) ∧ Below w.heap.size w w' := by
  obtain ⟨h0, h1⟩ := hn
  by_cases hneg : n < 0
  · have e : Lib.itoa n = [45] ++ Lib.decDigits n.natAbs := by
      obtain ⟨u, rfl⟩ : ∃ u : Nat, n = -(u : Int) := ⟨n.natAbs, by omega⟩
      rw [Lib.itoa_neg u (by omega), Int.natAbs_neg, Int.natAbs_natCast]; rfl
    rw [e]
    have hl := nDig_le n.natAbs (by omega)
    have HD := Lib.hid (digits_any n.natAbs (by omega))
    have HZ : Hid (n.natAbs = (-n).toNat) := Lib.hid (by omega)
    clear e
    generalize Lib.decDigits n.natAbs = D at HD hl ⊢
    go_enter Tryz.func71, Tryz.ntmps71
    go_wp2_with fail
    refine (HD.out _ (by omega) _).mono ?_
    rintro x w1 ⟨rfl, hb1⟩
    have HB1 := Lib.hid hb1
    clear hb1
    go_wp2_with fail
    go_ret
    refine ⟨?_, HB1.out⟩
    show Ending.returned (.string ((⟨[45].toArray⟩ : ByteArray) ++ ⟨D.toArray⟩)) = _
    rw [ba_append, List.singleton_append]
  · have e : Lib.itoa n = Lib.decDigits n.toNat := by
      obtain ⟨u, rfl⟩ : ∃ u : Nat, n = (u : Int) := ⟨n.toNat, by omega⟩
      rw [Lib.itoa_nonneg, Int.toNat_natCast]
    rw [e]
    have HD := Lib.hid (digits_any n.toNat (by omega))
    have HZ := Lib.hid (show n = (n.toNat : Int) by omega)
    clear e
    generalize Lib.decDigits n.toNat = D at HD ⊢
    go_enter Tryz.func71, Tryz.ntmps71
    go_wp2_with fail
    refine (HD.out _ HZ.out _).mono ?_
    rintro x w1 ⟨rfl, hb1⟩
    have HB1 := Lib.hid hb1
    clear hb1
    go_wp2_with fail
    go_ret
    exact ⟨rfl, HB1.out⟩

/-- '[]byte(s)': new memory that the call owns. -/
theorem conv_own (W : World) (s : ByteArray) (hs : s.size ≤ 140737488355328) : ∃ cap W1, (convert 9 56 (.string s)).run Tryz.prog W = .ok (.slice (some ⟨W.heap.size, 0, none⟩) s.size cap) W1 ∧
    Own W1 W.heap.size (.slice (some ⟨W.heap.size, 0, none⟩) s.size cap) s.data.toList ∧ Below W.heap.size W W1 := by
  have hr := Lib.run_convert_string_bytes (P := Tryz.prog) W 9 56 5 s Tryz.underlying9 Tryz.underlying56 Tryz.underlying5
  have hge := grownCap_ge W s.size 0 5
  have hcm : grownCap W s.size 0 5 ≤ maxLen := grownCap_le_maxLen W s.size 0 5 (by unfold maxLen; omega)
  have hsl := size_len s
  have hsz : (Lib.bytesCells W 5 s).size = grownCap W s.size 0 5 := by
    unfold Lib.bytesCells
    rw [Array.size_append, Array.size_map, Array.size_replicate]
    have : s.data.size = s.size := rfl
    omega
  have hnew := Lib.bytesWorld_at_new W 5 s
  refine ⟨_, _, hr, .inr ⟨W.heap.size, _, by rw [hsl], Nat.le_refl _, by rw [Lib.bytesWorld_size]; omega, by omega, hcm, fun j hj => ⟨?_, ?_⟩, fun j hj => ?_⟩, rfl, rfl, rfl, by rw [Lib.bytesWorld_size]; omega, fun k hk => Lib.bytesWorld_at_old W _ s k hk⟩
  · have : j < (Lib.bytesCells W 5 s).size := by omega
    simp [World.cell?, hnew, this]
  · simp only [World.frozen?, hnew]
    have : ¬ (Lib.bytesCells W 5 s).size ≤ j := by omega
    simp [this]
  · rw [Lib.bytesWorld_cell W _ s j (by omega), List.getD_eq_getElem?_getD, List.getElem?_eq_getElem hj]; rfl

set_option maxHeartbeats 2000000 in
set_option maxRecDepth 100000 in
theorem refnum_any (n : Int) (hn : I64 n) (w : World) :
    Calls Tryz.prog 48 #[.int .i64 n] w fun e w' => ∃ v, e = .returned v ∧ Own w' w.heap.size v (numB n) ∧ Below w.heap.size w w' := by
  have hl := itoa_length20 n hn
  have HI := Lib.hid (itoa_any n hn w)
  obtain ⟨sv, hs⟩ : ∃ sv : ByteArray, (⟨(Lib.itoa n).toArray⟩ : ByteArray) ++ ⟨#[59]⟩ = sv := ⟨_, rfl⟩
  have HS : Hid (sv.data.toList = numB n) := by
    rw [← hs, show (⟨#[59]⟩ : ByteArray) = ⟨[59].toArray⟩ from rfl, ba_append]; exact List.toList_toArray
  have HSZ := Lib.hid (show sv.size ≤ 140737488355328 by rw [size_len, HS.out]; have := numB_len n hn; omega)
  clear hn
  go_enter Tryz.func48, Tryz.ntmps48
  go_wp2_with fail
  refine HI.out.mono ?_
  rintro x w1 ⟨rfl, hb1⟩
  obtain ⟨cap, W1, hcv, hown, hb2⟩ := conv_own w1 sv HSZ.out
  have HO := Lib.hid hown
  have HB := Lib.hid (hb1.trans (hb2.mono hb1.size))
  have HB1 := Lib.hid hb1.size
  clear hown hb1 hb2
  go_wp2_with fail
  go_ret
  refine ⟨_, rfl, ?_, HB.out⟩
  have := HO.out.mono HB1.out
  rw [HS.out] at this
  exact this

set_option maxHeartbeats 2000000 in
set_option maxRecDepth 100000 in
theorem reftext_any (s : ByteArray) (hs : s.size ≤ 140737488355296) (w : World) :
    Calls Tryz.prog 49 #[.string s] w fun e w' => ∃ v, e = .returned v ∧ Own w' w.heap.size v (textB s.data.toList) ∧ Below w.heap.size w w' := by
  obtain ⟨i0, hi, hz0, hz1, hz2⟩ := info_parts info5
  have hl := size_len s
  have hn : I64 (s.size : Int) := ⟨by omega, by omega⟩
  have hnl := numB_len _ hn
  have HN := Lib.hid (refnum_any (s.size : Int) hn w)
  have HL := Lib.hid hl
  clear hl
  go_enter Tryz.func49, Tryz.ntmps49
  go_wp2_with fail
  refine HN.out.mono ?_
  rintro e w1 ⟨v1, rfl, ho1, hb1⟩
  have hsrc := src_string (P := Tryz.prog) w1 Tryz.underlying9 s
  have hlt := ho1.lt
  have hsz := hb1.size
  go_wp2_with (at_builtin; refine wpList_append_bytes _ rfl _ _ 56 9 rfl 5 i0 Tryz.underlying56 hi hz0 hz1 hz2 w.heap.size _ _ rfl ho1 _ s.data.toList rfl hsrc ?lim ?hB ?_)
  case lim => have := HL.out; omega
  case hB => exact hsz
  intro v2 w2 ho3 hg3 _
  go_wp2
  go_ret
  refine ⟨v2, rfl, ?_, hb1.grown hg3 hsz (fun k hk => (hlt k hk).1)⟩
  unfold textB
  rw [← HL.out]
  exact ho3
end Go.Proofs.YtilplpjdbkipoaaGreatDoor.NetP

namespace Go.Proofs.YtilplpjdbkipoaaGreatDoor.NetP
open Go Go.Shelf Go.RowKit NetMath NetMem

def isDig (l : List UInt8) (k : Nat) : Bool := decide (k < l.length) && (decide (48 ≤ (l.getD k 0).toNat) && (decide ((l.getD k 0).toNat ≤ 57) && decide (k < 21)))
def dstep (n : Int) (c : UInt8) : Int := IntKind.u64.wrap (IntKind.u64.wrap (10 * n) + ((c.toNat : Int) - 48))
/-- The number that digits spell from place k on, in a uint64. -/
def scanF (l : List UInt8) : Nat → Nat → Int → Int
  | 0, _, n => n
  | f + 1, k, n => if isDig l k then scanF l f (k + 1) (dstep n (l.getD k 0)) else n

theorem scanF_step (l : List UInt8) (k : Nat) (m : Int) (hk : isDig l k = true) (h21 : k < 21) : scanF l (21 - k) k m = scanF l (21 - (k + 1)) (k + 1) (dstep m (l.getD k 0)) := by
  obtain ⟨f, hf⟩ : ∃ f, 21 - k = f + 1 := ⟨20 - k, by omega⟩
  rw [hf, show 21 - (k + 1) = f by omega]
  simp only [scanF]
  rw [if_pos hk]
theorem scanF_stop (l : List UInt8) (k : Nat) (m : Int) (hk : isDig l k = false) : scanF l (21 - k) k m = m := by
  cases h : 21 - k with
  | zero => rfl
  | succ f => simp only [scanF]; rw [if_neg (by rw [hk]; decide)]
theorem isDig_yes {l : List UInt8} {k c : Nat} (hk : k < l.length) (hc : l[k].toNat = c) (h1 : 48 ≤ c) (h2 : c ≤ 57) (h3 : k < 21) : isDig l k = true := by
  have e : l.getD k 0 = l[k] := by simp [List.getD, hk]
  unfold isDig
  rw [e, hc]
  simp [hk, h1, h2, h3]
theorem isDig_no {l : List UInt8} {k : Nat} (h : l.length ≤ k ∨ (∃ hk : k < l.length, l[k].toNat < 48 ∨ 57 < l[k].toNat) ∨ 21 ≤ k) : isDig l k = false := by
  unfold isDig
  rcases h with h | ⟨hk, h⟩ | h
  · simp; omega
  · have e : l.getD k 0 = l[k] := by simp [List.getD, hk]
    rw [e]
    simp
    omega
  · simp; omega
theorem dstep_c (m : Int) {l : List UInt8} {k c : Nat} (hk : k < l.length) (hc : l[k].toNat = c) : dstep m (l.getD k 0) = IntKind.u64.wrap (IntKind.u64.wrap (10 * m) + ((c : Int) - 48)) := by
  have e : l.getD k 0 = l[k] := by simp [List.getD, hk]
  unfold dstep
  rw [e, hc]
theorem u64_range (x : Int) : 0 ≤ IntKind.u64.wrap x ∧ IntKind.u64.wrap x ≤ 18446744073709551615 := by
  simp [IntKind.wrap, IntKind.bits, IntKind.signed]; omega

theorem below_drewN (B : Nat) (w : World) (n : Nat) : Below B w (w.drewN n) := ⟨rfl, rfl, rfl, Nat.le_refl _, fun _ _ => rfl⟩

theorem refnum_z (V : Int) (hV : I64 V) (z : Int) (hz : z = V) (N : Nat) (hN : (numB V).length = N) (w : World) :
    Calls Tryz.prog 48 #[.int .i64 z] w fun e w' => ∃ p c, e = .returned (.slice p N c) ∧ Row w' (.slice p N c) (numB V) ∧ Below w.heap.size w w' := by
  subst hz
  subst hN
  exact (refnum_any z hV w).mono fun e w' ⟨v, he, ho, hb⟩ => by
    obtain ⟨p, c, hv, -⟩ := id ho.row
    subst hv
    exact ⟨p, c, he, ho.row, hb⟩

set_option maxHeartbeats 8000000 in
set_option maxRecDepth 100000 in
theorem refr_pos (neg : Bool) (i0 : Nat) (hi0 : i0 = if neg then 1 else 0) (r : Nat) (l : List UInt8) (hl : l.length ≤ 140737488355328) (b o cap : Nat) (w : World) (hR : w.heap[r]? = some (.cells #[.slice (some ⟨b, o, none⟩) l.length cap] 97 (0, 0)))
    (hrow : Row w (.slice (some ⟨b, o, none⟩) l.length cap) l) (hpos : 0 < l.length) (c0 : Nat) (hc0 : l[0].toNat = c0) (h45 : ((c0 : Int) == 45) = neg) (F : Int) (hF : scanF l (21 - i0) i0 0 = F)
    (V : Int) (hV : (if neg then wrap64 (-wrap64 F) else wrap64 F) = V) (hI : I64 V) (N : Nat) (hN : (numB V).length = N) :
    Calls Tryz.prog 58 #[.pointer (some ⟨r, 0, none⟩)] w fun e w' => e = .returned (.tuple #[.int .i64 (if numB V == l.take N then V else 0), .bool (numB V == l.take N)]) ∧
      Rd 97 w' r (if numB V == l.take N then l.drop N else l) ∧ Kept r w w' := by
  obtain ⟨hcell, hfree, hlt0⟩ := Rd.cell hR
  obtain ⟨hlc, hcm⟩ := Row.le w hrow
  have hcs : ∀ i (h : i < l.length), w.cell? ⟨b, o + i, none⟩ = some (.int .u8 (l[i].toNat : Int)) := by
    obtain ⟨b', o', hp, hcc⟩ := (Row.nums hrow).2.2.2 (by omega)
    simp only [Option.some.injEq, Addr.mk.injEq, and_true] at hp
    obtain ⟨rfl, rfl⟩ := hp
    exact hcc
  have HR := Lib.hid hR
  have HROW := Lib.hid hrow
  have HV := Lib.hid hV
  have HI := Lib.hid hI
  have HN := Lib.hid hN
  have HLL := Lib.hid hl
  clear hR hrow hV hI hN hl
  have hcell0 : w.cell? ⟨b, o, none⟩ = some (.int .u8 (c0 : Int)) := by have := hcs 0 hpos; rw [Nat.add_zero, hc0] at this; exact this
  have hposI : (0 : Int) < (l.length : Int) := by omega
  have HC := Lib.hid hcs
  have HC0 := Lib.hid hc0
  have HF := Lib.hid hF
  clear hcs hc0 hF
  cases neg
  all_goals
    simp only [if_true, if_false, Bool.false_eq_true] at hi0
    have HV2 := Lib.hid HV.out
    simp only [if_true, if_false, Bool.false_eq_true, Hid] at HV2
    have HVV := Lib.hid HV2
    clear HV2 HV
    subst hi0
    go_enter Tryz.func58, Tryz.ntmps58
    go_upto_block 0 with (fail)
    go_cut [6] (fun n wx => n = .int .u64 F ∧ wx = w)
    case first =>
      go_wp2_with fail
      go_loop [4, 6] (fun i n => ∃ k : Nat, ∃ m : Int, k ≤ l.length ∧ k ≤ 21 ∧ i = .int .i64 k ∧ n = .int .u64 m ∧ 0 ≤ m ∧ m ≤ 18446744073709551615 ∧ scanF l (21 - k) k m = F) (fun i _ => 21 - (intOf i).toNat)
      case atStart => first | exact ⟨0, 0, by omega, by omega, rfl, rfl, by omega, by omega, HF.out⟩ | exact ⟨1, 0, by omega, by omega, rfl, rfl, by omega, by omega, HF.out⟩
      case round =>
        obtain ⟨k, m, hk, hk21, rfl, rfl, hm0, hm1, hsc⟩ := hrel
        have HSC := Lib.hid hsc
        clear hsc
        by_cases hdig : isDig l k = true
        · have hd := hdig
          unfold isDig at hd
          simp only [Bool.and_eq_true, decide_eq_true_eq] at hd
          obtain ⟨hlt, hd1, hd2, h3⟩ := hd
          have e : l.getD k 0 = l[k] := by simp [List.getD, hlt]
          rw [e] at hd1 hd2
          obtain ⟨c, hc⟩ : ∃ c : Nat, l[k].toNat = c := ⟨_, rfl⟩
          rw [hc] at hd1 hd2
          have hck : w.cell? ⟨b, o + k, none⟩ = some (.int .u8 (c : Int)) := by rw [HC.out k hlt, hc]
          have HCK := Lib.hid hc
          have HD := Lib.hid hdig
          have hltI : (k : Int) < (l.length : Int) := by omega
          have h1I : (48 : Int) ≤ (c : Int) := by omega
          have h2I : (c : Int) ≤ 57 := by omega
          have h3I : (k : Int) < 21 := by omega
          clear hc hdig e
          go_wp2_with fail
          go_round
          case rel =>
            have hr := u64_range (IntKind.u64.wrap (10 * m) + ((c : Int) - 48))
            exact ⟨k + 1, _, by omega, by omega, by go_num, rfl, hr.1, hr.2, by rw [← dstep_c m hlt HCK.out, ← scanF_step l k m HD.out h3]; exact HSC.out⟩
          case measure => simp [intOf]; omega
        · have hno : isDig l k = false := by simpa using hdig
          have hmF : m = F := by rw [← HSC.out, scanF_stop l k m hno]
          subst hmF
          have hfour : (l.length : Int) ≤ (k : Int) ∨ (k < l.length ∧ 21 ≤ k) ∨ ∃ c : Nat, k < l.length ∧ k < 21 ∧ w.cell? ⟨b, o + k, none⟩ = some (.int .u8 (c : Int)) ∧ (c < 48 ∨ (48 ≤ c ∧ 57 < c)) := by
            by_cases hlt : k < l.length
            · by_cases h21 : k < 21
              · refine .inr (.inr ⟨l[k].toNat, hlt, h21, HC.out k hlt, ?_⟩)
                by_cases h48 : l[k].toNat < 48
                · exact .inl h48
                · by_cases h57 : l[k].toNat ≤ 57
                  · rw [isDig_yes hlt rfl (by omega) h57 h21] at hno; cases hno
                  · exact .inr ⟨by omega, by omega⟩
              · exact .inr (.inl ⟨hlt, by omega⟩)
            · exact .inl (by omega)
          clear hno hdig HSC
          have hltI : k < l.length → (k : Int) < (l.length : Int) := fun h => by omega
          rcases hfour with hge | ⟨hlt, h21⟩ | ⟨c, hlt, h21, hck, h48 | ⟨h48, h57⟩⟩
          · go_wp2_with fail
            go_meet
            exact ⟨rfl, rfl⟩
          · have hk21e : k = 21 := by omega
            have h3D : decide ((k : Int) < 21) = false := by simp; omega
            have h3I : ¬ ((k : Int) < 21) := by omega
            have hltI2 := hltI hlt
            have hck := HC.out k hlt
            generalize l[k].toNat = c at hck
            clear hk21e hltI
            by_cases h48 : (48 : Int) ≤ (c : Int)
            · by_cases h57 : (c : Int) ≤ 57
              · go_wp2_with fail
                go_meet
                exact ⟨rfl, rfl⟩
              · have h2D : decide ((c : Int) ≤ 57) = false := by simpa using h57
                go_wp2_with fail
                go_meet
                exact ⟨rfl, rfl⟩
            · have h1D : decide ((48 : Int) ≤ (c : Int)) = false := by simpa using h48
              go_wp2_with fail
              go_meet
              exact ⟨rfl, rfl⟩
          · have hltI2 := hltI hlt
            have h1I : ¬ ((48 : Int) ≤ (c : Int)) := by omega
            have h1D : decide ((48 : Int) ≤ (c : Int)) = false := by simpa using h1I
            clear hltI
            go_wp2_with fail
            go_meet
            exact ⟨rfl, rfl⟩
          · have hltI2 := hltI hlt
            have h1I : (48 : Int) ≤ (c : Int) := by omega
            have h2I : ¬ ((c : Int) ≤ 57) := by omega
            have h2D : decide ((c : Int) ≤ 57) = false := by simpa using h2I
            clear hltI
            go_wp2_with fail
            go_meet
            exact ⟨rfl, rfl⟩
    case rest =>
      obtain ⟨rfl, hwc⟩ := hcut
      subst hwc
      clear hcell0 h45 hposI
      go_wp2_with fail
      refine (refnum_z V HI.out _ HVV.out N HN.out _).mono ?_
      rintro e w1 ⟨p1, k1, rfl, hrow1, hb1⟩
      have hc1 : w1.cell? ⟨r, 0, none⟩ = some (.slice (some ⟨b, o, none⟩) l.length cap) := by rw [hb1.cell (p := ⟨r, 0, none⟩) hlt0]; exact hcell
      have hf1 : w1.frozen? ⟨r, 0, none⟩ = false := by rw [hb1.frozen (p := ⟨r, 0, none⟩) hlt0]; exact hfree
      have HR1 := Lib.hid ((hb1.block r hlt0).trans HR.out)
      have HK := Lib.hid (Kept.of_below (r := r) hb1)
      have HROW1 := Lib.hid (HROW.out.below hb1)
      have HP1 := Lib.hid hrow1
      clear hb1 hrow1 hcell hfree
      by_cases hA : l.length < N
      · have hAI : (l.length : Int) < (N : Int) := by omega
        have hne : (numB V == l.take N) = false := by
          rw [beq_eq_false_iff_ne]
          intro h
          have := congrArg List.length h
          rw [HN.out, List.length_take] at this; omega
        go_wp2_with fail
        go_quiet (fail)
        go_wp2_with fail
        all_goals
          go_ret2
          exact ⟨rfl, ⟨_, HR1.out, Row.below HROW1.out (below_drewN _ _ _)⟩, HK.out.trans (Kept.of_below (below_drewN _ _ _))⟩
      · have hAI : ¬ ((l.length : Int) < (N : Int)) := by omega
        have hAD : decide ((l.length : Int) < (N : Int)) = false := by simpa using hAI
        have hNI : (N : Int) ≤ (cap : Int) := by omega
        have hNc : N ≤ cap := by omega
        obtain ⟨x, hx⟩ : ∃ x : ByteArray, (⟨(numB V).toArray⟩ : ByteArray) = x := ⟨_, rfl⟩
        obtain ⟨y, hy⟩ : ∃ y : ByteArray, (⟨(l.take N).toArray⟩ : ByteArray) = y := ⟨_, rfl⟩
        have hcp : ∀ nq : Nat, (convert 56 9 (.slice p1 N k1)).run Tryz.prog (w1.drewN nq) = .ok (.string x) (w1.drewN nq) := fun nq => by
          rw [← hx]; exact Row.convert (Row.below HP1.out (below_drewN _ _ nq))
        have hcl : ∀ nq : Nat, (convert 56 9 (.slice (some ⟨b, o, none⟩) N cap)).run Tryz.prog (w1.drewN nq) = .ok (.string y) (w1.drewN nq) := fun nq => by
          rw [← hy]; exact Row.convert (Row.take (Row.below HROW1.out (below_drewN _ _ nq)) N (by omega))
        by_cases hB : numB V = l.take N
        · have hbe : (numB V == l.take N) = true := by simpa using hB
          have hxy : x = y := by rw [← hx, ← hy, hB]
          subst hxy
          have HD := Lib.hid (Row.drop HROW1.out N (by omega))
          clear hx hy hB
          go_wp2_with fail
          go_quiet (fail)
          go_wp2_with fail
          all_goals
            go_ret2
            refine ⟨congrArg (fun z => Ending.returned (.tuple #[.int .i64 z, .bool true])) HVV.out, ⟨_, Rd.set HR1.out, ?_⟩, (HK.out.trans (Kept.of_below (below_drewN _ _ _))).trans (Kept.set _ _ _)⟩
            have hd := HD.out
            first
              | rw [if_pos ‹cap = N›, show cap - N = 0 by omega] at hd
              | rw [if_neg ‹¬cap = N›, Option.map_some, Lib.add_plain] at hd
            exact Row.kept (w := w1.drewN nq) HR1.out (Kept.set _ _ _) (Row.below hd (below_drewN _ _ nq))
        · have hbe : (numB V == l.take N) = false := by simpa using hB
          have hxl : (y.toList == x.toList) = false := by
            rw [← hx, ← hy, ByteArray.toList_mk, ByteArray.toList_mk, beq_eq_false_iff_ne]
            exact fun h => hB h.symm
          clear hx hy hB
          go_wp2_with fail
          go_quiet (fail)
          go_wp2_with fail
          all_goals
            go_ret2
            exact ⟨rfl, ⟨_, HR1.out, Row.below HROW1.out (below_drewN _ _ _)⟩, HK.out.trans (Kept.of_below (below_drewN _ _ _))⟩
end Go.Proofs.YtilplpjdbkipoaaGreatDoor.NetP

namespace Go.Proofs.YtilplpjdbkipoaaGreatDoor.NetP
open Go Go.Shelf Go.RowKit NetMath NetMem

theorem numB_zero : numB 0 = [48, 59] := by
  unfold numB
  rw [show (0 : Int) = ((0 : Nat) : Int) from rfl, Lib.itoa_nonneg, decDigits_small (by omega)]; rfl

theorem scanF_digits : ∀ (D pre rest : List UInt8) (n : Int), (∀ c ∈ D, 48 ≤ c.toNat ∧ c.toNat ≤ 57) → pre.length + D.length ≤ 20 → 0 ≤ n → val n.toNat D < 18446744073709551616 →
    scanF (pre ++ (D ++ 59 :: rest)) (21 - pre.length) pre.length n = (val n.toNat D : Int)
  | [], pre, rest, n, _, _, h0, _ => by
    rw [scanF_stop]
    · rw [val_nil]; omega
    · apply isDig_no
      right; left
      refine ⟨by simp, ?_⟩
      right
      rw [List.getElem_append_right (Nat.le_refl _)]
      simp
  | c :: D, pre, rest, n, hd, hl, h0, hv => by
    have hc := hd c (by simp)
    have hk : pre.length < (pre ++ (c :: D ++ 59 :: rest)).length := by simp
    have hget : (pre ++ (c :: D ++ 59 :: rest))[pre.length] = c := by
      rw [List.getElem_append_right (Nat.le_refl _)]; simp
    have hdig : isDig (pre ++ (c :: D ++ 59 :: rest)) pre.length = true := isDig_yes hk rfl (by rw [hget]; exact hc.1) (by rw [hget]; exact hc.2) (by simp at hl; omega)
    rw [val_cons] at hv
    have hm := val_mono D (10 * n.toNat + dv c)
    have hdv : (dv c : Int) = (c.toNat : Int) - 48 := by unfold dv; omega
    have hst : dstep n ((pre ++ (c :: D ++ 59 :: rest)).getD pre.length 0) = ((10 * n.toNat + dv c : Nat) : Int) := by
      rw [dstep_c n hk rfl, hget]
      rw [IntWalk.u64_in (10 * n) (by omega), IntWalk.u64_in _ (by omega)]
      omega
    rw [scanF_step _ _ _ hdig (by simp at hl; omega), hst, val_cons]
    have ih := scanF_digits D (pre ++ [c]) rest ((10 * n.toNat + dv c : Nat) : Int) (fun x hx => hd x (by simp [hx])) (by simp at hl ⊢; omega) (by omega) (by rw [Int.toNat_natCast]; exact hv)
    rw [Int.toNat_natCast, List.append_assoc, List.length_append] at ih
    exact ih

/-- The candidate that the other text reckons. -/
def cand (l : List UInt8) : Int :=
  if l.head? = some 45 then wrap64 (-wrap64 (scanF l 20 1 0)) else wrap64 (scanF l 21 0 0)

theorem wrap64_I (x : Int) : I64 (wrap64 x) := by
  unfold RowKit.wrap64 I64; omega
theorem cand_I (l : List UInt8) : I64 (cand l) := by
  unfold cand
  split <;> exact wrap64_I _

theorem cand_of (l : List UInt8) (n : Int) (hn : I64 n) (h : numB n = l.take (numB n).length) : cand l = n := by
  obtain ⟨h0, h1⟩ := hn
  obtain ⟨rest, hr⟩ : ∃ rest, l = numB n ++ rest := ⟨l.drop (numB n).length, by conv => lhs; rw [← List.take_append_drop (numB n).length l]; rw [← h]⟩
  subst hr
  clear h
  by_cases hneg : n < 0
  · obtain ⟨u, rfl⟩ : ∃ u : Nat, n = -(u : Int) := ⟨n.natAbs, by omega⟩
    have hu : 1 ≤ u ∧ u ≤ 9223372036854775808 := by omega
    have el : numB (-(u : Int)) ++ rest = [45] ++ (Lib.decDigits u ++ 59 :: rest) := by
      unfold numB
      rw [Lib.itoa_neg u hu.1]; simp
    rw [el]
    have hlen : (Lib.decDigits u).length ≤ 19 := by rw [Lib.decDigits_length]; exact nDigits_le19 u (by omega)
    have hs := scanF_digits (Lib.decDigits u) [45] rest 0 (decDigits_all u) (by simp; omega) (by omega) (by rw [Int.toNat_zero, val_decDigits]; omega)
    rw [Int.toNat_zero, val_decDigits] at hs
    unfold cand
    rw [if_pos (by simp)]
    have hs2 : scanF ([45] ++ (Lib.decDigits u ++ 59 :: rest)) 20 1 0 = (u : Int) := hs
    rw [hs2]
    unfold RowKit.wrap64
    omega
  · obtain ⟨u, rfl⟩ : ∃ u : Nat, n = (u : Int) := ⟨n.toNat, by omega⟩
    have el : numB (u : Int) ++ rest = [] ++ (Lib.decDigits u ++ 59 :: rest) := by
      unfold numB
      rw [Lib.itoa_nonneg]; simp
    have hlen : (Lib.decDigits u).length ≤ 20 := by rw [Lib.decDigits_length]; exact Lib.nDigits_le20 u (by omega)
    have hs := scanF_digits (Lib.decDigits u) [] rest 0 (decDigits_all u) (by simp; omega) (by omega) (by rw [Int.toNat_zero, val_decDigits]; omega)
    rw [Int.toNat_zero, val_decDigits, ← el] at hs
    have hs2 : scanF (numB (u : Int) ++ rest) 21 0 0 = (u : Int) := hs
    have hh : ¬ (numB (u : Int) ++ rest).head? = some 45 := by
      rw [el]
      intro hh
      have hne := decDigits_ne u
      have hall := decDigits_all u
      revert hh hne hall
      cases Lib.decDigits u with
      | nil => intro _ h _; exact absurd rfl h
      | cons c D =>
        intro hh _ hall
        simp at hh
        have := hall c (by simp)
        rw [hh] at this
        simp at this
    unfold cand
    rw [if_neg hh, hs2]
    unfold RowKit.wrap64
    omega

/-- What the plain functions say, by the candidate. -/
theorem by_cand (l : List UInt8) : numV l = (if numB (cand l) == l.take (numB (cand l)).length then cand l else 0) ∧ numOk l = (numB (cand l) == l.take (numB (cand l)).length) ∧
    numRest l = (if numB (cand l) == l.take (numB (cand l)).length then l.drop (numB (cand l)).length else l) := by
  have h := firstN_by l (cand l) (cand_I l) (fun n hn he => cand_of l n hn he)
  unfold numV numOk numRest
  rw [h]
  by_cases hc : numB (cand l) = l.take (numB (cand l)).length
  · have hb : (numB (cand l) == l.take (numB (cand l)).length) = true := by simpa using hc
    rw [if_pos hc, hb]; exact ⟨rfl, rfl, rfl⟩
  · have hb : (numB (cand l) == l.take (numB (cand l)).length) = false := by simpa using hc
    rw [if_neg hc, hb]; exact ⟨rfl, rfl, rfl⟩

set_option maxHeartbeats 4000000 in
set_option maxRecDepth 100000 in
theorem refr_none (r : Nat) (p : Option Addr) (cap : Nat) (w : World) (hR : w.heap[r]? = some (.cells #[.slice p 0 cap] 97 (0, 0))) (hrow : Row w (.slice p 0 cap) []) :
    Calls Tryz.prog 58 #[.pointer (some ⟨r, 0, none⟩)] w fun e w' => e = .returned (.tuple #[.int .i64 0, .bool false]) ∧ Rd 97 w' r [] ∧ Kept r w w' := by
  obtain ⟨hcell, hfree, hlt0⟩ := Rd.cell hR
  have HR := Lib.hid hR
  have HROW := Lib.hid hrow
  clear hR hrow
  go_enter Tryz.func58, Tryz.ntmps58
  go_upto_block 0 with (fail)
  go_cut [6] (fun n wx => n = .int .u64 0 ∧ wx = w)
  case first =>
    go_wp2_with fail
    go_loop [4, 6] (fun i n => i = .int .i64 0 ∧ n = .int .u64 0) (fun i _ => 21 - (intOf i).toNat)
    case atStart => exact ⟨rfl, rfl⟩
    case round =>
      obtain ⟨rfl, rfl⟩ := hrel
      go_wp2_with fail
      go_meet
      exact ⟨rfl, rfl⟩
  case rest =>
    obtain ⟨rfl, hwc⟩ := hcut
    subst hwc
    go_wp2_with fail
    refine (refnum_z 0 ⟨by omega, by omega⟩ _ (by rfl) 2 (by rw [numB_zero]; rfl) _).mono ?_
    rintro e w1 ⟨p1, k1, rfl, hrow1, hb1⟩
    have hc1 : w1.cell? ⟨r, 0, none⟩ = some (.slice p 0 cap) := by rw [hb1.cell (p := ⟨r, 0, none⟩) hlt0]; exact hcell
    have HR1 := Lib.hid ((hb1.block r hlt0).trans HR.out)
    have HK := Lib.hid (Kept.of_below (r := r) hb1)
    have HROW1 := Lib.hid (HROW.out.below hb1)
    clear hb1 hrow1 hcell hfree
    go_wp2_with fail
    go_quiet (fail)
    go_wp2_with fail
    all_goals
      go_ret2
      exact ⟨rfl, ⟨_, HR1.out, Row.below HROW1.out (below_drewN _ _ _)⟩, HK.out.trans (Kept.of_below (below_drewN _ _ _))⟩

/-- WHAT THE OTHER Reader's Num ANSWERS AND LEAVES. -/
theorem refr_any (r : Nat) (l : List UInt8) (hl : l.length ≤ 140737488355328) (w : World) (h : Rd 97 w r l) :
    Calls Tryz.prog 58 #[.pointer (some ⟨r, 0, none⟩)] w fun e w' => e = .returned (.tuple #[.int .i64 (numV l), .bool (numOk l)]) ∧ Rd 97 w' r (numRest l) ∧ Kept r w w' := by
  obtain ⟨v, hr, hv⟩ := h
  obtain ⟨p, cap, hv0, -⟩ := id hv
  subst hv0
  obtain ⟨hlc, -⟩ := Row.le w hv
  cases l with
  | nil => exact refr_none r p cap w hr hv
  | cons c t =>
    obtain ⟨b, o, hp, -⟩ := (Row.nums hv).2.2.2 (by simp at hlc; omega)
    subst hp
    obtain ⟨e1, e2, e3⟩ := by_cand (c :: t)
    rw [e1, e2, e3]
    have hI := cand_I (c :: t)
    by_cases hc : c = 45
    · have hcand : wrap64 (-wrap64 (scanF (c :: t) (21 - 1) 1 0)) = cand (c :: t) := by unfold cand; rw [if_pos (by simp [hc])]
      exact refr_pos true 1 rfl r (c :: t) hl b o cap w hr hv (by simp) c.toNat rfl (by rw [hc]; rfl) _ rfl _ (by simpa using hcand) hI _ rfl
    · have hcand : wrap64 (scanF (c :: t) (21 - 0) 0 0) = cand (c :: t) := by unfold cand; rw [if_neg (by simp [hc])]
      exact refr_pos false 0 rfl r (c :: t) hl b o cap w hr hv (by simp) c.toNat rfl (by
        have : c.toNat ≠ 45 := fun h => hc (UInt8.toNat_inj.1 h)
        simp; omega) _ rfl _ (by simpa using hcand) hI _ rfl
end Go.Proofs.YtilplpjdbkipoaaGreatDoor.NetP

namespace Go.Proofs.YtilplpjdbkipoaaGreatDoor.NetP
open Go Go.Shelf Go.RowKit NetMath NetMem

theorem num_facts (l : List UInt8) : (numOk l = false → textOf l = none) ∧ (numOk l = true → (numRest l).length ≤ l.length ∧
    textOf l = if numV l < 0 ∨ ((numRest l).length : Int) < numV l then none else some ((numRest l).take (numV l).toNat, (numRest l).drop (numV l).toNat)) := by
  unfold numOk numV numRest textOf
  cases hf : firstN l with
  | none => exact ⟨fun _ => rfl, (fun h => by cases h)⟩
  | some x =>
    obtain ⟨n, k⟩ := x
    refine ⟨(fun h => by cases h), fun _ => ⟨by simp, ?_⟩⟩
    simp only [List.length_drop]

set_option maxHeartbeats 4000000 in
set_option maxRecDepth 100000 in
/-- Where no text comes next: nothing is taken. -/
theorem reft_no (r : Nat) (l : List UInt8) (hl : l.length ≤ 140737488355328) (w : World) (h : Rd 97 w r l) (hno : numOk l = false ∨ (numOk l = true ∧ (numV l < 0 ∨ ((numRest l).length : Int) < numV l))) :
    Calls Tryz.prog 59 #[.pointer (some ⟨r, 0, none⟩)] w fun e w' => e = .returned (.tuple #[.string ⟨#[]⟩, .bool false]) ∧ Rd 97 w' r l ∧ Kept r w w' := by
  have HN := Lib.hid (refr_any r l hl w h)
  obtain ⟨v, hR, hv⟩ := h
  obtain ⟨p, cap, hv0, -⟩ := id hv
  subst hv0
  obtain ⟨hcell, hfree, hlt0⟩ := Rd.cell hR
  have HR := Lib.hid hR
  have HV := Lib.hid hv
  clear hR hv
  generalize numV l = n at HN hno
  generalize hmm : numRest l = m at HN hno
  clear hmm
  rcases hno with hok | ⟨hok, hneg | hlong⟩
  · rw [hok] at HN
    clear hok
    go_enter Tryz.func59, Tryz.ntmps59
    go_wp2_with fail
    refine HN.out.mono ?_
    rintro e w1 ⟨rfl, ⟨v1, hR1, hV1⟩, hk1⟩
    obtain ⟨p1, cap1, hv1, -⟩ := id hV1
    subst hv1
    obtain ⟨hcell1, hfree1, -⟩ := Rd.cell hR1
    have HR1 := Lib.hid hR1
    have HK := Lib.hid hk1
    have HVV := Lib.hid (Row.kept HR.out hk1 HV.out)
    clear hR1 hV1 hk1 hcell hfree HN
    go_wp2_with fail
    all_goals
      go_ret2
      exact ⟨rfl, ⟨_, Rd.set HR1.out, Row.kept HR1.out (Kept.set _ _ _) HVV.out⟩, HK.out.trans (Kept.set _ _ _)⟩
  · rw [hok] at HN
    clear hok
    go_enter Tryz.func59, Tryz.ntmps59
    go_wp2_with fail
    refine HN.out.mono ?_
    rintro e w1 ⟨rfl, ⟨v1, hR1, hV1⟩, hk1⟩
    obtain ⟨p1, cap1, hv1, -⟩ := id hV1
    subst hv1
    obtain ⟨hcell1, hfree1, -⟩ := Rd.cell hR1
    have HR1 := Lib.hid hR1
    have HK := Lib.hid hk1
    have HVV := Lib.hid (Row.kept HR.out hk1 HV.out)
    clear hR1 hV1 hk1 hcell hfree HN
    go_wp2_with fail
    all_goals
      go_ret2
      exact ⟨rfl, ⟨_, Rd.set HR1.out, Row.kept HR1.out (Kept.set _ _ _) HVV.out⟩, HK.out.trans (Kept.set _ _ _)⟩
  · rw [hok] at HN
    clear hok
    have hnn : ¬ n < 0 := by omega
    have hnD : decide (n < 0) = false := by simpa using hnn
    go_enter Tryz.func59, Tryz.ntmps59
    go_wp2_with fail
    refine HN.out.mono ?_
    rintro e w1 ⟨rfl, ⟨v1, hR1, hV1⟩, hk1⟩
    obtain ⟨p1, cap1, hv1, -⟩ := id hV1
    subst hv1
    obtain ⟨hcell1, hfree1, -⟩ := Rd.cell hR1
    have HR1 := Lib.hid hR1
    have HK := Lib.hid hk1
    have HVV := Lib.hid (Row.kept HR.out hk1 HV.out)
    clear hR1 hV1 hk1 hcell hfree HN
    go_wp2_with fail
    all_goals
      go_ret2
      exact ⟨rfl, ⟨_, Rd.set HR1.out, Row.kept HR1.out (Kept.set _ _ _) HVV.out⟩, HK.out.trans (Kept.set _ _ _)⟩

set_option maxHeartbeats 4000000 in
set_option maxRecDepth 100000 in
/-- Where one comes next. -/
theorem reft_yes (r : Nat) (l : List UInt8) (hl : l.length ≤ 140737488355328) (w : World) (h : Rd 97 w r l) (hok : numOk l = true) (q : Nat) (hq : numV l = (q : Int)) (m : List UInt8) (hmm : numRest l = m) (hqm : q ≤ m.length) :
    Calls Tryz.prog 59 #[.pointer (some ⟨r, 0, none⟩)] w fun e w' => e = .returned (.tuple #[.string ⟨(m.take q).toArray⟩, .bool true]) ∧ Rd 97 w' r (m.drop q) ∧ Kept r w w' := by
  have HN := refr_any r l hl w h
  rw [hok, hq, hmm] at HN
  have HN := Lib.hid HN
  obtain ⟨v, hR, hv⟩ := h
  obtain ⟨p, cap, hv0, -⟩ := id hv
  subst hv0
  obtain ⟨hcell, hfree, hlt0⟩ := Rd.cell hR
  clear hR hv hok hq hmm
  obtain ⟨t, ht⟩ : ∃ t, (m.take q).toArray = t := ⟨_, rfl⟩
  rw [ht]
  have HTT := Lib.hid ht
  clear ht
  have hq0 : ¬ ((q : Int) < 0) := by omega
  have hqD : decide ((q : Int) < 0) = false := by simp
  have hq1 : ¬ ((m.length : Int) < (q : Int)) := by omega
  have hq2 : decide ((m.length : Int) < (q : Int)) = false := by simpa using hq1
  have hqI : (q : Int) ≤ (m.length : Int) := by omega
  go_enter Tryz.func59, Tryz.ntmps59
  go_wp2_with fail
  refine HN.out.mono ?_
  rintro e w1 ⟨rfl, ⟨v1, hR1, hV1⟩, hk1⟩
  obtain ⟨p1, cap1, hv1, -⟩ := id hV1
  subst hv1
  obtain ⟨hcell1, hfree1, -⟩ := Rd.cell hR1
  obtain ⟨hlc1, hcm1⟩ := Row.le w1 hV1
  have hqc : q ≤ cap1 := by omega
  have hqcI : (q : Int) ≤ (cap1 : Int) := by omega
  have hconv := Row.convert (Row.take hV1 q hqm)
  have HR1 := Lib.hid hR1
  have HK := Lib.hid hk1
  have HD := Lib.hid (Row.drop hV1 q hqm)
  have hform : cap1 = 0 ∨ ∃ b o, p1 = some ⟨b, o, none⟩ := by
    rcases Nat.eq_zero_or_pos cap1 with h0 | h0
    · exact .inl h0
    · obtain ⟨b, o, hp, -⟩ := (Row.nums hV1).2.2.2 h0
      exact .inr ⟨b, o, hp⟩
  have HF := Lib.hid hform
  clear hR1 hV1 hk1 hcell hfree HN hform
  rw [HTT.out] at hconv
  rcases HF.out with h0 | ⟨b, o, hp⟩
  · subst h0
    have hq00 : q = 0 := by omega
    subst hq00
    have hm0 : m.length = 0 := by omega
    cases p1 with
    | none =>
      clear HF hqcI hqc hlc1
      go_wp2_with fail
      all_goals
        go_ret2
        refine ⟨rfl, ⟨_, Rd.set HR1.out, ?_⟩, HK.out.trans (Kept.set _ _ _)⟩
        have hd := HD.out
        rw [if_pos trivial, hm0] at hd
        exact Row.kept HR1.out (Kept.set _ _ _) hd
    | some a =>
      clear HF hqcI hqc hlc1
      go_wp2_with fail
      all_goals
        go_ret2
        refine ⟨rfl, ⟨_, Rd.set HR1.out, ?_⟩, HK.out.trans (Kept.set _ _ _)⟩
        have hd := HD.out
        rw [if_pos trivial, hm0] at hd
        exact Row.kept HR1.out (Kept.set _ _ _) hd
  · subst hp
    clear HF
    go_wp2_with fail
    all_goals
      go_ret2
      refine ⟨rfl, ⟨_, Rd.set HR1.out, ?_⟩, HK.out.trans (Kept.set _ _ _)⟩
      have hd := HD.out
      first
        | rw [if_pos ‹cap1 = q›, show cap1 - q = 0 by omega] at hd
        | rw [if_neg ‹¬cap1 = q›, Option.map_some, Lib.add_plain] at hd
      exact Row.kept HR1.out (Kept.set _ _ _) hd

/-- WHAT THE OTHER Reader's Text ANSWERS AND LEAVES. -/
theorem reft_any (r : Nat) (l : List UInt8) (hl : l.length ≤ 140737488355328) (w : World) (h : Rd 97 w r l) :
    Calls Tryz.prog 59 #[.pointer (some ⟨r, 0, none⟩)] w fun e w' => e = .returned (.tuple #[.string ⟨(textV l).toArray⟩, .bool (textOk l)]) ∧ Rd 97 w' r (textRest l) ∧ Kept r w w' := by
  obtain ⟨hf1, hf2⟩ := num_facts l
  unfold textV textOk textRest
  cases hok : numOk l with
  | false =>
    rw [hf1 hok]
    exact reft_no r l hl w h (.inl hok)
  | true =>
    obtain ⟨hle, he⟩ := hf2 hok
    rw [he]
    by_cases hc : numV l < 0 ∨ ((numRest l).length : Int) < numV l
    · rw [if_pos hc]
      exact reft_no r l hl w h (.inr ⟨hok, hc⟩)
    · rw [if_neg hc]
      obtain ⟨q, hq⟩ : ∃ q : Nat, numV l = (q : Int) := ⟨(numV l).toNat, by omega⟩
      rw [hq, Int.toNat_natCast]
      exact reft_yes r l hl w h hok q hq _ rfl (by omega)
end Go.Proofs.YtilplpjdbkipoaaGreatDoor.NetP
