/-
  Proved: the contract of the statements' own Itoa: a number's digits; they are that number. Conditions: the number is an int64.
-/
import Derived.Test.YtlgbfhjbfolibaaDoorArNum
import Derived.Test.YtlgbfhjbfolibaaDoorNetMath
import Derived.Laws.BytesArg
import Derived.Lib.ItoaMem
import Derived.OwnWalk
import Derived.IntWalk
namespace Go.Proofs.YtlgbfhjbfolibaaDoor.ArItoa
open Go Go.Shelf Go.RowKit NetMath

theorem digit_conv (u : Nat) (w : World) : (convert 66 9 (.slice (some ⟨w.heap.size, 0, none⟩) 1 1)).run Tryd.prog (w.alloc (.cells #[.int .u8 (48 + (u : Int) % 10)] 5)) =
    .ok (.string ⟨#[UInt8.ofNat (48 + u % 10)]⟩) (w.alloc (.cells #[.int .u8 (48 + (u : Int) % 10)] 5)) := by
  have h := run_convert_bytes_arg (P := Tryd.prog) (w.alloc (.cells #[.int .u8 (48 + (u : Int) % 10)] 5)) 66 5 Tryd.underlying66 Tryd.underlying5 w.heap.size 0 1 1 [48 + (u : Int) % 10] rfl (fun i hi => by
    obtain rfl : i = 0 := by omega
    exact cell_of_row _ _ _ _ _ _ (heap_alloc_new w _)) 9 Tryd.underlying9
  rw [h]
  congr 2
theorem nDig_le (u : Nat) (h : u < 18446744073709551616) : (Lib.decDigits u).length ≤ 20 := by rw [Lib.decDigits_length]; exact Lib.nDigits_le20 u h

theorem ba_append (a b : List UInt8) : (⟨a.toArray⟩ : ByteArray) ++ ⟨b.toArray⟩ = ⟨(a ++ b).toArray⟩ := by
  apply ByteArray.ext
  simp

set_option maxHeartbeats 2000000 in
set_option maxRecDepth 100000 in
theorem digits_step (u : Nat) (hu : u < 18446744073709551616) (w : World)
    (ih : 10 ≤ u → ∀ w1 : World, Calls Tryd.prog 22 #[.int .u64 ((u : Int) / 10)] w1 fun e w' => e = .returned (.string ⟨(Lib.decDigits (u / 10)).toArray⟩) ∧ Below w1.heap.size w1 w') :
    Calls Tryd.prog 22 #[.int .u64 (u : Int)] w fun e w' => e = .returned (.string ⟨(Lib.decDigits u).toArray⟩) ∧ Below w.heap.size w w' := by
  have hconv := digit_conv u w
  have hb := (Below.refl w.heap.size w).alloc (Nat.le_refl _) (.cells #[.int .u8 (48 + (u : Int) % 10)] 5)
  have HB := Lib.hid hb
  clear hb
  by_cases h10 : u < 10
  · have h1 : u % 10 = u := by omega
    have e : Lib.decDigits u = [UInt8.ofNat (48 + u)] := decDigits_small h10
    rw [h1] at hconv
    rw [e]
    clear ih e h1
    have h2 : ¬ ((10 : Int) ≤ (u : Int)) := by omega
    go_enter Tryd.func22, Tryd.ntmps22
    go_wp2_with fail
    go_ret
    exact ⟨rfl, HB.out⟩
  · have e : Lib.decDigits u = Lib.decDigits (u / 10) ++ [UInt8.ofNat (48 + u % 10)] := decDigits_big h10
    have h2 : (10 : Int) ≤ (u : Int) := by omega
    have HI := Lib.hid (ih (by omega))
    have hl := nDig_le (u / 10) (by omega)
    rw [e]
    clear ih e
    generalize Lib.decDigits (u / 10) = D at HI hl ⊢
    generalize UInt8.ofNat (48 + u % 10) = d at hconv ⊢
    go_enter Tryd.func22, Tryd.ntmps22
    go_wp2_with fail
    refine (HI.out _).mono ?_
    rintro x w1 ⟨rfl, hb1⟩
    have HB1 := Lib.hid (HB.out.trans (hb1.mono HB.out.size))
    clear hb1
    go_wp2_with fail
    go_ret
    refine ⟨?_, HB1.out⟩
    show Ending.returned (.string ((⟨D.toArray⟩ : ByteArray) ++ ⟨[d].toArray⟩)) = _
    rw [ba_append]

theorem digits_all (u : Nat) : ∀ (_ : u < 18446744073709551616) (w : World),
    Calls Tryd.prog 22 #[.int .u64 (u : Int)] w fun e w' => e = .returned (.string ⟨(Lib.decDigits u).toArray⟩) ∧ Below w.heap.size w w' := by
  induction u using Nat.strongRecOn with
  | _ u ih =>
    intro hu w
    refine digits_step u hu w (fun h w1 => ?_)
    have := ih (u / 10) (by omega) (by omega) w1
    rwa [show ((u / 10 : Nat) : Int) = (u : Int) / 10 by omega] at this

theorem digits_any (u : Nat) (hu : u < 18446744073709551616) (z : Int) (hz : z = (u : Int)) (w : World) :
    Calls Tryd.prog 22 #[.int .u64 z] w fun e w' => e = .returned (.string ⟨(Lib.decDigits u).toArray⟩) ∧ Below w.heap.size w w' := by
  subst hz
  exact digits_all u hu w

set_option maxHeartbeats 2000000 in
set_option maxRecDepth 100000 in
theorem itoa_any (n : Int) (hn : I64 n) (w : World) :
    Calls Tryd.prog 13 #[.int .i64 n] w fun e w' => e = .returned (.string ⟨(Lib.itoa n).toArray⟩) ∧ Below w.heap.size w w' := by
  obtain ⟨h0, h1⟩ := hn
  by_cases hneg : n < 0
  · have e : Lib.itoa n = [45] ++ Lib.decDigits n.natAbs := by
      obtain ⟨u, rfl⟩ : ∃ u : Nat, n = -(u : Int) := ⟨n.natAbs, by omega⟩
      rw [Lib.itoa_neg u (by omega), Int.natAbs_neg, Int.natAbs_natCast]; rfl
    rw [e]
    have hl := nDig_le n.natAbs (by omega)
    have HD := Lib.hid (digits_any n.natAbs (by omega))
    have HZ : Hid (n.natAbs = (-n).toNat) := Lib.hid (by omega)
    clear e
    generalize Lib.decDigits n.natAbs = D at HD hl ⊢
    go_enter Tryd.func13, Tryd.ntmps13
    go_wp2_with fail
    refine (HD.out _ (by omega) _).mono ?_
    rintro x w1 ⟨rfl, hb1⟩
    have HB1 := Lib.hid hb1
    clear hb1
    go_wp2_with fail
    go_ret
    refine ⟨?_, HB1.out⟩
    show Ending.returned (.string ((⟨[45].toArray⟩ : ByteArray) ++ ⟨D.toArray⟩)) = _
    rw [ba_append, List.singleton_append]
  · have e : Lib.itoa n = Lib.decDigits n.toNat := by
      obtain ⟨u, rfl⟩ : ∃ u : Nat, n = (u : Int) := ⟨n.toNat, by omega⟩
      rw [Lib.itoa_nonneg, Int.toNat_natCast]
    rw [e]
    have HD := Lib.hid (digits_any n.toNat (by omega))
    have HZ := Lib.hid (show n = (n.toNat : Int) by omega)
    clear e
    generalize Lib.decDigits n.toNat = D at HD ⊢
    go_enter Tryd.func13, Tryd.ntmps13
    go_wp2_with fail
    refine (HD.out _ HZ.out _).mono ?_
    rintro x w1 ⟨rfl, hb1⟩
    have HB1 := Lib.hid hb1
    clear hb1
    go_wp2_with fail
    go_ret
    exact ⟨rfl, HB1.out⟩

end Go.Proofs.YtlgbfhjbfolibaaDoor.ArItoa
namespace Go.Proofs.YtlgbfhjbfolibaaDoor
open Go Go.RowKit ArMath
theorem itoa_tx (n : Int) (hn : ArMath.I64 n) (w : World) : Calls Tryd.prog 13 #[.int .i64 n] w fun e w' => e = .returned (.string (tx (Lib.itoa n))) ∧ Below w.heap.size w w' := ArItoa.itoa_any n hn w
theorem itoa_num (n : Int) (hn : ArMath.I64 n) : numM (Lib.itoa n) = (n, true) := by
  have h := NetMath.parse_itoa n hn
  have hp : (Lib.itoa n).head? ≠ some 43 := by
    unfold Lib.itoa
    split
    · simp
    · cases hd : Lib.decDigits n.toNat with
      | nil => simp
      | cons c r =>
        have := NetMath.decDigits_all n.toNat c (by rw [hd]; simp)
        intro e
        simp at e
        rw [e] at this
        simp at this
  unfold numM
  rw [if_neg hp, h]
theorem itoa_len (n : Int) (hn : ArMath.I64 n) : (Lib.itoa n).length ≤ 140737488355328 := Nat.le_trans (NetMath.itoa_length20 n hn) (by decide)
theorem itoa_some (n : Int) : Lib.itoa n ≠ [] := NetMath.itoa_ne n
end Go.Proofs.YtlgbfhjbfolibaaDoor
