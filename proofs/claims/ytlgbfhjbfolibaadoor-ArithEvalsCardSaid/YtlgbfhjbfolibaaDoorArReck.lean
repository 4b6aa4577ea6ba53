/-
  Proved: the contract of a reckoner's reckon. Conditions: it lies in memory; numbers enough wait.
-/
import Derived.Test.YtlgbfhjbfolibaaDoorArPop
import Derived.Test.YtlgbfhjbfolibaaDoorArPut
import Derived.Deep.LoopGhost
import Derived.LoopTactic
import Derived.Deep.RegionHeld3
namespace Go.Proofs.YtlgbfhjbfolibaaDoor
open Go Go.Shelf Go.RowKit ArMath

theorem truV_I (b : Bool) : I64 (truV b) := by cases b <;> exact ⟨by decide, by decide⟩
theorem zero_I : I64 0 := ⟨by decide, by decide⟩
theorem one_I (t : B) (a : Int) : I64 (oneV t a).1 := by
  unfold oneV
  split
  · exact truV_I _
  · exact wr_I _
theorem two_I (t : B) (a b : Int) (hb : I64 b) : I64 (twoV t a b).1 := by
  unfold twoV
  split
  · exact wr_I _
  split
  · exact wr_I _
  split
  · exact wr_I _
  split
  · split
    · exact zero_I
    · exact wr_I _
  split
  · split
    · exact zero_I
    · exact tmod_in _ _ hb (by assumption)
  split
  · exact truV_I _
  split
  · exact truV_I _
  split
  · exact truV_I _
  split
  · exact truV_I _
  split
  · exact truV_I _
  · exact truV_I _
section
variable {w : World} {X : Nat} {vs : Vars} {vv mm nn ss : Value} {s : St}
theorem binN_two {t : B} {k : Nat} {S : List (B × Nat)} (h4 : k ≠ 4) (h0 : k ≠ 0) : binN ((t, k) :: S) = 1 + binN S := by
  show (if k = 4 ∨ k = 0 then 0 else 1) + binN S = _
  rw [if_neg (by omega)]
theorem reck_stop {l : Nat} {S : List (B × Nat)} {N : List Int} {b : Bool} (h : ¬ l ≤ lastL S) : reck l S N b = (S, N, b) := by
  cases S with
  | nil => rfl
  | cons x S => obtain ⟨t, k⟩ := x; unfold reck; rw [if_neg (show ¬ l ≤ k from h)]
theorem reck_one {l : Nat} {t : B} {S : List (B × Nat)} {n : Int} {N : List Int} {b : Bool} (h : l ≤ 4) : reck l ((t, 4) :: S) (n :: N) b = reck l S ((oneV t n).1 :: N) (b || !(oneV t n).2) := by
  conv => lhs; unfold reck
  rw [if_pos h, if_pos rfl]
theorem reck_two {l k : Nat} {t : B} {S : List (B × Nat)} {n m : Int} {N : List Int} {b : Bool} (h : l ≤ k) (h4 : k ≠ 4) : reck l ((t, k) :: S) (n :: m :: N) b = reck l S ((twoV t m n).1 :: N) (b || !(twoV t m n).2) := by
  conv => lhs; unfold reck
  rw [if_pos h, if_neg h4]
set_option maxRecDepth 8000 in
set_option maxHeartbeats 2000000 in
theorem reckon_any (l : Nat) (h0 : 1 ≤ l) (h4 : l ≤ 4) (hb : binN s.signs + 1 ≤ s.nums.length) (hl : s.nums.length ≤ 20000) (h : Rk w X vs vv mm nn ss s) :
    Calls Tryd.prog 26 #[.pointer (some ⟨X, 0, none⟩), .int .i64 (l : Int)] w fun e w' => e = .returned (.tuple #[]) ∧ (∃ nn' ss', Rk w' X vs vv mm nn' ss' (s.reck l)) ∧ Below X w w' := by
  obtain ⟨R, hR⟩ : ∃ R, reck l s.signs s.nums s.bad = R := ⟨_, rfl⟩
  have hE : s.reck l = ⟨s.left, R.2.1, R.1, R.2.2⟩ := by rw [← hR]; rfl
  rw [hE]
  obtain ⟨left, N0, S0, b0⟩ := s
  simp only at *
  have HE := Lib.hid hE
  have HL := Lib.hid (And.intro h0 h4)
  have hX := h.lt
  have hI0 : Below X w w := ⟨rfl, rfl, rfl, Nat.le_refl _, fun _ _ => rfl⟩
  have HI0 := Lib.hid hI0
  have HST := Lib.hid (show ∃ N S b nn ss, Rk w X vs vv mm nn ss ⟨left, N, S, b⟩ ∧ Below X w w ∧ reck l S N b = R ∧ S.length ≤ S0.length ∧ binN S + 1 ≤ N.length ∧ N.length ≤ 20000 from ⟨N0, S0, b0, nn, ss, h, hI0, hR, Nat.le_refl _, hb, hl⟩)
  clear h hR hE hb hl hI0 h0 h4
  obtain ⟨LI, hLI⟩ : ∃ L : Int, (l : Int) = L := ⟨_, rfl⟩
  have HLI := Lib.hid hLI
  rw [hLI]
  clear hLI
  have HNW := Lib.hid (show ∀ (W : World) {n1 s1 : Value} {s : St} (_ : Rk W X vs vv mm n1 s1 s) (o : Obj), Rk (W.alloc o) X vs vv mm n1 s1 s from fun W _ _ _ h o => h.new ((Below.refl _ W).alloc (Nat.le_refl _) _))
  have HNB := Lib.hid (show ∀ (W : World) {n1 s1 : Value} {s : St} (_ : Rk W X vs vv mm n1 s1 s) (o : Obj), Below X W (W.alloc o) from fun W _ _ _ h o => (Below.refl X W).alloc (by have := h.lt; omega) _)
  go_enter Tryd.func26, Tryd.ntmps26
  go_wp2_with fail
  go_loopg [5] (S0.length) (fun gf _ wx => Hid (∃ N S b nn ss, Rk wx X vs vv mm nn ss ⟨left, N, S, b⟩ ∧ Below X w wx ∧ reck l S N b = R ∧ S.length ≤ gf ∧ binN S + 1 ≤ N.length ∧ N.length ≤ 20000))
  case atStart => exact HST
  case round =>
    obtain ⟨N, S, b, n1, s1, hk, hbw, hr, hS, hN, hm⟩ := hrel.out
    have HK := Lib.hid hk
    have HBW := Lib.hid hbw
    clear hrel HST hk hbw
    by_cases hc : l ≤ lastL S
    · have hcI : LI ≤ (lastL S : Int) := by rw [← HLI.out]; omega
      cases S with
      | nil => simp [lastL] at hc; have := HL.out; omega
      | cons tk S =>
        obtain ⟨t, k⟩ := tk
        cases N with
        | nil => simp at hN
        | cons n N =>
          obtain ⟨T, hT⟩ : ∃ T, tx t = T := ⟨_, rfl⟩
          have HT := Lib.hid hT
          obtain ⟨g', rfl⟩ : ∃ g', gk = g' + 1 := ⟨gk - 1, by simp at hS; omega⟩
          have hk4 : k = 4 ∨ k ≠ 4 := by omega
          rcases hk4 with rfl | hk4
          · rw [reck_one HL.out.2] at hr
            have HN := Lib.hid (show I64 n from HK.out.rws.i64 n (by simp))
            have HO := Lib.hid (fun W => one_any T n HN.out W)
            rw [← hT, tx_list] at HO
            have HP := Lib.hid (And.intro hr (And.intro hS (And.intro hN hm)))
            rw [hT] at HO
            have hcI2 : LI ≤ 4 := hcI
            have HLN := Lib.hid (show N.length ≤ 20000 by simp at hm; omega)
            have HLV := Lib.hid (show ((lastL ((t, 4) :: S) : Nat) : Int) = 4 from rfl)
            clear hr hS hN hm hc hcI hT
            obtain ⟨v1, hv1⟩ : ∃ v, oneV t n = v := ⟨_, rfl⟩
            rw [hv1] at HO HP
            have HV := Lib.hid (show I64 v1.1 by rw [← hv1]; exact one_I t n)
            clear hv1
            go_wp2_with (first
              | (go_at_call 44; (with_reducible refine (last_any HK.out).mono ?_); rintro e w1 ⟨rfl, hb1⟩; rw [HLV.out]; have HK1 := Lib.hid (HK.out.new hb1); have HB1 := Lib.hid (HBW.out.trans (hb1.mono (by have := HK.out.lt; omega))); clear hb1)
              | (go_at_call 43; (with_reducible refine (pop_any HK1.out rfl).mono ?_); rintro e w2 ⟨rfl, ⟨ss2, hk2⟩, hb2⟩; rw [HT.out]; have HK2 := Lib.hid hk2; have HB2 := Lib.hid (HB1.out.trans hb2); clear hk2 hb2)
              | (go_at_call 15; (with_reducible refine (take_any HK2.out rfl).mono ?_); rintro e w3 ⟨rfl, ⟨nn3, hk3, -⟩, hb3, -⟩; have HK3 := Lib.hid hk3; have HB3 := Lib.hid (HB2.out.trans hb3); clear hk3 hb3)
              | (go_at_call 45; (with_reducible refine (HO.out _).mono ?_); rintro e w4 ⟨rfl, rfl⟩)
              | (go_at_call 37; (with_reducible refine (put_any v1.1 v1.2 HV.out HLN.out (HNW.out _ HK3.out _)).mono ?_); rintro e w5 ⟨rfl, ⟨nn5, hk5⟩, hb5, -⟩; have HK5 := Lib.hid hk5; have HB5 := Lib.hid (HB3.out.trans ((HNB.out _ HK3.out _).trans hb5)); clear hk5 hb5))
            go_roundg g'
            case rel => exact Lib.hid ⟨_, _, _, nn5, ss2, HK5.out, HB5.out, HP.out.1, by have := HP.out.2.1; simp at this; omega, by have := HP.out.2.2.1; simp [binN] at this ⊢; omega, by have := HP.out.2.2.2; simp at this ⊢; omega⟩
            case measure => omega
          · cases N with
            | nil =>
              rw [binN_two (by omega) (by have := HL.out; simp [lastL] at hc; omega)] at hN
              simp at hN
            | cons m N =>
              rw [reck_two (show l ≤ k from hc) hk4] at hr
              have hbn := binN_two (t := t) (S := S) (show k ≠ 4 from hk4) (by have := HL.out; simp [lastL] at hc; omega)
              rw [hbn] at hN
              have HN := Lib.hid (show I64 n from HK.out.rws.i64 n (by simp))
              have HM := Lib.hid (show I64 m from HK.out.rws.i64 m (by simp))
              have HO := Lib.hid (fun W => two_any T m n HM.out HN.out W)
              rw [← hT, tx_list] at HO
              have HP := Lib.hid (And.intro hr (And.intro hS (And.intro hN hm)))
              rw [hT] at HO
              obtain ⟨KI, hKI⟩ : ∃ K : Int, (k : Int) = K := ⟨_, rfl⟩
              have HKI := Lib.hid hKI
              have HLV := Lib.hid (show ((lastL ((t, k) :: S) : Nat) : Int) = KI from hKI)
              have hcI2 : LI ≤ KI := by rw [← hKI]; exact hcI
              have hk5 : (KI == 4) = false := by
                have : ¬ KI = 4 := by omega
                simpa using this
              have HLN := Lib.hid (show N.length ≤ 20000 by simp at hm; omega)
              clear hr hS hN hm hc hcI hT hbn hk4 hKI
              obtain ⟨v1, hv1⟩ : ∃ v, twoV t m n = v := ⟨_, rfl⟩
              rw [hv1] at HO HP
              have HV := Lib.hid (show I64 v1.1 by rw [← hv1]; exact two_I t m n HN.out)
              clear hv1
              go_wp2_with (first
                | (go_at_call 44; (with_reducible refine (last_any HK.out).mono ?_); rintro e w1 ⟨rfl, hb1⟩; rw [HLV.out]; have HK1 := Lib.hid (HK.out.new hb1); have HB1 := Lib.hid (HBW.out.trans (hb1.mono (by have := HK.out.lt; omega))); clear hb1)
                | (go_at_call 43; (with_reducible refine (pop_any HK1.out rfl).mono ?_); rintro e w2 ⟨rfl, ⟨ss2, hk2⟩, hb2⟩; rw [HT.out, HKI.out]; have HK2 := Lib.hid hk2; have HB2 := Lib.hid (HB1.out.trans hb2); clear hk2 hb2)
                | (go_at_call 15; (with_reducible refine (take_any HK2.out rfl).mono ?_); rintro e w3 ⟨rfl, ⟨nn3, hk3, -⟩, hb3, -⟩; have HK3 := Lib.hid hk3; have HB3 := Lib.hid (HB2.out.trans hb3); clear hk3 hb3))
              have HW0 := Lib.hid (heap_alloc_new w3 (.cells #[.string T, .int .i64 KI] 72))
              obtain ⟨W, hW⟩ : ∃ W, w3.alloc (.cells #[.string T, .int .i64 KI] 72) = W := ⟨_, rfl⟩
              have HW := Lib.hid hW
              rw [hW] at HW0
              have HK4 := Lib.hid (show Rk W X vs vv mm nn3 ss2 ⟨left, m :: N, S, b⟩ from hW ▸ HNW.out _ HK3.out _)
              have HB4 := Lib.hid (show Below X w W from hW ▸ HB3.out.trans (HNB.out _ HK3.out _))
              have HQ := Lib.hid (show X < w3.heap.size from HK3.out.lt)
              have HNQ := Lib.hid (show nn3.ownBlock ≠ some w3.heap.size from fun e => by have := (World.ownsRow.lt HK3.out.rws.nums _ e).2; omega)
              obtain ⟨Q, hQ⟩ : ∃ Q, w3.heap.size = Q := ⟨_, rfl⟩
              rw [hW, hQ]
              rw [hQ] at HW0 HQ HNQ
              clear hW hQ HW
              have HS0 := Lib.hid (show W.drew.cell? ⟨Q, 0, none⟩ = some (.string T) from cell_of_row W Q 0 _ _ _ HW0.out)
              go_region_held3 (fun V => V.cell? ⟨Q, 0, none⟩ = some (.string T)) (first | assumption | exact HS0.out | exact HS5.out | exact HS7.out) ((first
                | (go_at_call 15; (with_reducible refine (take_any HK4.out.drew rfl).mono ?_); rintro e w5 ⟨rfl, ⟨nn5, hk5, ho5⟩, hb5, hx5⟩; have HO5 := Lib.hid ho5; have HK5 := Lib.hid hk5; have HB5 := Lib.hid ((ar_drew HB4.out).trans hb5); have HS5 := Lib.hid (show w5.cell? ⟨Q, 0, none⟩ = some (.string T) from (World.cell?_of_block (hx5 Q (by have := HQ.out; omega))).trans HS0.out); clear hk5 hb5 hx5 ho5)
                | (go_at_call 46; (with_reducible refine (HO.out _).mono ?_); rintro e w6 ⟨rfl, rfl⟩)
                | (go_at_call 37; (with_reducible refine (put_any v1.1 v1.2 HV.out HLN.out HK5.out).mono ?_); rintro e w7 ⟨rfl, ⟨nn7, hk7⟩, hb7, hx7⟩; have HK7 := Lib.hid hk7; have HB7 := Lib.hid (HB5.out.trans hb7); have HS7 := Lib.hid (show w7.cell? ⟨Q, 0, none⟩ = some (.string T) from (World.cell?_of_block (hx7 Q (World.block_lt_of_cell? _ _ HS5.out) (by have := HQ.out; omega) (by rw [HO5.out]; exact HNQ.out))).trans HS5.out); clear hk7 hb7 hx7)))
              go_wp2_with fail
              go_roundg g'
              case rel => exact Lib.hid ⟨_, _, _, nn7, ss2, HK7.out, HB7.out, HP.out.1, by have := HP.out.2.1; simp at this; omega, by have := HP.out.2.2.1; simp at this ⊢; omega, by have := HP.out.2.2.2; simp at this ⊢; omega⟩
              case measure => omega
    · have HR := Lib.hid ((reck_stop hc).symm.trans hr)
      have hcI : ¬ LI ≤ (lastL S : Int) := by rw [← HLI.out]; omega
      obtain ⟨LL, hLL⟩ : ∃ L : Int, (lastL S : Int) = L := ⟨_, rfl⟩
      rw [hLL] at hcI
      have HLL := Lib.hid hLL
      clear hr hc hLL hS hN hm
      go_wp2_with (go_at_call 44; (refine (last_any HK.out).mono ?_); rintro e w1 ⟨rfl, hb1⟩; rw [HLL.out]; have HB1 := Lib.hid hb1; clear hb1)
      go_end0
      refine ⟨rfl, ⟨n1, s1, ?_⟩, HBW.out.trans (HB1.out.mono (by have := HK.out.lt; omega))⟩
      rw [← HR.out]
      exact HK.out.new HB1.out
end
end Go.Proofs.YtlgbfhjbfolibaaDoor
