/-
  Proved: of any runs the law SplitFields answers true; nothing that was there has turned. Conditions: the library's tables lie as they should; each text fits into memory.
-/
import Derived.Test.YtfepkhlifpbkfaaDoorSpRFields
import Derived.Test.YtfepkhlifpbkfaaDoorSpRJoin
import Derived.Test.YtfepkhlifpbkfaaDoorSpRSames
import Derived.Test.YtfepkhlifpbkfaaDoorSpRuns
import Derived.Test.YtfepkhlifpbkfaaDoorSpSomeM
import Derived.Test.YtfepkhlifpbkfaaDoorSpKnown
namespace Go.Proofs.YtfepkhlifpbkfaaDoor
open Go Go.RowKit GlyphMath GlMath SpMath

theorem RowOf.rd {w w' : World} {B : Nat} {v : Value} {l : List Ch} (h : RowOf w B v l) (hb : Below w.heap.size w w') : Rd 2 cC w' v l := Rd.of_own cE (h.below hb)
set_option maxRecDepth 8000 in
set_option maxHeartbeats 4000000 in
theorem splitFields_law (l : List Rn) (v : Value) (w : World) (h : Rd 4 rnC w v l) (hsz : ∀ x ∈ l, x.text.size ≤ 140737488355328) (hT : Tabs w) :
    Calls Tryd.prog 3 #[v] w fun e w' => e = .returned (.bool true) ∧ Below w.heap.size w w' := by
  obtain ⟨p, c, rfl⟩ := h.shape
  have HA := Lib.hid h
  obtain ⟨N, hN⟩ : ∃ N, l.length = N := ⟨_, rfl⟩
  have HN := Lib.hid hN
  have HSZ := Lib.hid hsz
  have HT := Lib.hid hT
  rw [hN] at HA
  rw [hN]
  clear h hN hsz hT
  go_enter Tryd.func3, Tryd.ntmps3
  go_wp2_with fail
  go_loopw [3, 4] (fun nv iv wr => ∃ k : Nat, iv = .int .i64 (k : Int) ∧ k ≤ N ∧ k ≤ 51 ∧ nv = .int .i64 (totR (l.take k) : Int) ∧ totR (l.take k) ≤ 300 ∧ wr = w) (fun _ iv _ => N - (intOf iv).toNat)
  case atStart => exact ⟨0, rfl, Nat.zero_le _, Nat.zero_le _, rfl, Nat.zero_le _, rfl⟩
  case round =>
    obtain ⟨k, rfl, hk, hk51, rfl, ht, rfl⟩ := hrel
    by_cases hlt : k < N
    · obtain ⟨x, hx⟩ : ∃ x, l[k]? = some x := ⟨_, List.getElem?_eq_getElem (by rw [HN.out]; exact hlt)⟩
      obtain ⟨b, o, hq, c0⟩ := HA.out.get hx
      subst hq
      have hxs := HSZ.out x (List.mem_of_getElem? hx)
      have e3 := totR_take l k x hx
      obtain ⟨xt, xq, xs, xb⟩ := x
      have d0 := c0 k _ hx 0 _ rfl
      rw [Nat.add_zero] at d0
      simp only at d0 hxs e3
      obtain ⟨tk, htk⟩ : ∃ t : Int, (totR (l.take k) : Int) = t := ⟨_, rfl⟩
      obtain ⟨zs, hzs⟩ : ∃ t : Int, (xt.size : Int) = t := ⟨_, rfl⟩
      rw [htk]
      have E := Lib.hid e3
      have HZ := Lib.hid hzs
      have HTK := Lib.hid htk
      have hwr : IntKind.i64.wrap (tk + zs) = tk + zs := IntWalk.i64_in _ ⟨by omega, by omega⟩
      have HLT := Lib.hid hlt
      have hltI : (k : Int) < (N : Int) := by omega
      have hk1 : (k : Int) + 1 ≤ 9223372036854775807 := by omega
      clear hx c0 hxs e3 htk hlt hk hk51 ht
      by_cases hbig : 300 < tk + zs
      · have g1 : decide (300 < tk + zs) = true := decide_eq_true hbig
        clear hbig
        go_wp2_with fail
        go_ret
        exact ⟨rfl, Below.refl _ _⟩
      · have g1 : decide (300 < tk + zs) = false := decide_eq_false hbig
        have HBG := Lib.hid hbig
        clear hbig
        by_cases hk5 : 50 < (k : Int)
        · have g2 : decide (50 < (k : Int)) = true := decide_eq_true hk5
          clear hk5
          go_wp2_with fail
          go_ret
          exact ⟨rfl, Below.refl _ _⟩
        · have g2 : decide (50 < (k : Int)) = false := decide_eq_false hk5
          have HK5 := Lib.hid hk5
          clear hk5
          go_wp2_with fail
          go_roundw
          case rel => exact ⟨k + 1, by simp, HLT.out, by have := HK5.out; omega, by rw [E.out]; have := HTK.out; have := HZ.out; congr 1; omega, by rw [E.out]; have := HBG.out; have := HTK.out; have := HZ.out; omega, trivial⟩
          case measure => have := HLT.out; simp [intOf]; omega
    · have hltI : ¬ (k : Int) < (N : Int) := by omega
      have hkN : l.take k = l := List.take_of_length_le (by rw [HN.out]; omega)
      rw [hkN] at ht ⊢
      have hll : l.length ≤ 1000 := by rw [HN.out]; omega
      have hss : ∀ x ∈ l, x.text.size ≤ 1000 := fun x hx => by have := totR_le l x hx; omega
      have HF := Lib.hid (fields_any l _ wr HA.out hll hss)
      have HR1 := Lib.hid (fun W (hb : Below wr.heap.size wr W) => runs_any l _ W (HA.out.below hb (Nat.le_refl _)) hll)
      have HRF := Lib.hid (fun W u (hr : Rd 4 rnC W u l) (hb : Below wr.heap.size wr W) => rfields_any l u W hr hll hss (HT.out.below hb))
      have HRJ := Lib.hid (fun W u (hr : Rd 4 rnC W u l) (hb : Below wr.heap.size wr W) => rjoin_any l u W hr hll hss (HT.out.below hb))
      have HJ := Lib.hid (fun W (hb : Below wr.heap.size wr W) => join_any l _ W (HA.out.below hb (Nat.le_refl _)) hll hss)
      obtain ⟨TT, hTT⟩ : ∃ t : Int, (totR l : Int) = t := ⟨_, rfl⟩
      rw [hTT]
      clear ht hkN hk hk51 hlt hTT hll hss
      go_wp2_with (first
        | (go_at_call 6; refine HF.out.mono ?_; rintro e w1 ⟨u1, rfl, hr, hb⟩; have R1 := Lib.hid hr; have B1 := Lib.hid hb; clear hr hb HF)
        | (go_at_call 8; refine (HR1.out _ B1.out).mono ?_; rintro e w2 ⟨u2, rfl, hr, hb⟩; have R2 := Lib.hid hr; have S2 := Lib.hid (R1.out.below hb); have B2 := Lib.hid (B1.out.trans (hb.mono B1.out.size)); clear hr hb)
        | (go_at_call 7; refine (HRF.out _ _ R2.out B2.out).mono ?_; rintro e w3 ⟨u3, rfl, hr, hb⟩; have R3 := Lib.hid hr; have S3 := Lib.hid (S2.out.below hb); have B3 := Lib.hid (B2.out.trans (hb.mono B2.out.size)); clear hr hb HRF)
        | (go_at_call 5; refine (rsames_any _ _ _ _ S3.out R3.out).mono ?_; rintro e w4 ⟨rfl, hb⟩; have B4 := Lib.hid (B3.out.trans (hb.mono B3.out.size)); clear hb)
        | (go_at_call 10; refine (HJ.out _ B4.out).mono ?_; rintro e w5 ⟨u5, rfl, hr, hb⟩; have R5 := Lib.hid hr; have B5 := Lib.hid (B4.out.trans (hb.mono B4.out.size)); clear hr hb HJ)
        | (go_at_call 8; refine (HR1.out _ B5.out).mono ?_; rintro e w6 ⟨u6, rfl, hr, hb⟩; have R6 := Lib.hid hr; have S6 := Lib.hid (R5.out.rd hb); have B6 := Lib.hid (B5.out.trans (hb.mono B5.out.size)); clear hr hb)
        | (go_at_call 11; refine (HRJ.out _ _ R6.out B6.out).mono ?_; rintro e w7 ⟨u7, rfl, hr, hb⟩; have R7 := Lib.hid (Rd.of_own cE hr); have S7 := Lib.hid (S6.out.below hb (Nat.le_refl _)); have B7 := Lib.hid (B6.out.trans (hb.mono B6.out.size)); clear hr hb HRJ)
        | (go_at_call 9; refine (rsame_any _ _ _ _ S7.out R7.out).mono ?_; rintro e w8 ⟨rfl, hb⟩; have B8 := Lib.hid (B7.out.trans (hb.mono B7.out.size)); clear hb)
        | (go_at_call 12; refine (known_any _).mono ?_; rintro e w9 ⟨rfl, hb⟩; have B9 := Lib.hid (B8.out.trans (hb.mono B8.out.size)); clear hb))
      go_ret
      exact ⟨rfl, B9.out⟩
end Go.Proofs.YtfepkhlifpbkfaaDoor
