/-
  Proved: of any runs the law SplitSome answers true; nothing that was there has turned. Conditions: each text fits into memory.
-/
import Derived.Test.YtfepkhlifpbkfaaSpSomeM
import Derived.Test.YtfepkhlifpbkfaaSpKnown
namespace Go.Proofs.Ytfepkhlifpbkfaa
open Go Go.RowKit GlyphMath GlMath SpMath

def RelS (l : List Rn) (w : World) (qv hv nv iv : Value) (wr : World) : Prop :=
  ∃ k : Nat, iv = .int .i64 (k : Int) ∧ k ≤ l.length ∧ k ≤ 51 ∧ qv = .bool ((l.take k).any (·.q)) ∧ hv = .bool ((l.take k).any hardR) ∧ nv = .int .i64 (totR (l.take k) : Int) ∧ totR (l.take k) ≤ 300 ∧ wr = w
set_option maxRecDepth 8000 in
set_option maxHeartbeats 8000000 in
theorem splitSome_law (l : List Rn) (v : Value) (w : World) (h : Rd 4 rnC w v l) (hsz : ∀ x ∈ l, x.text.size ≤ 140737488355328) :
    Calls Try.prog 4 #[v] w fun e w' => e = .returned (.bool true) ∧ Below w.heap.size w w' := by
  obtain ⟨p, c, rfl⟩ := h.shape
  have HA := Lib.hid h
  obtain ⟨N, hN⟩ : ∃ N, l.length = N := ⟨_, rfl⟩
  have HN := Lib.hid hN
  have HSZ := Lib.hid hsz
  rw [hN] at HA
  rw [hN]
  clear h hN hsz
  go_enter Try.func4, Try.ntmps4
  go_wp2_with fail
  go_loopw [3, 4, 5, 6] (fun qv hv nv iv wr => RelS l w qv hv nv iv wr) (fun _ _ _ iv _ => N - (intOf iv).toNat)
  case atStart => exact ⟨0, rfl, Nat.zero_le _, Nat.zero_le _, rfl, rfl, rfl, Nat.zero_le _, rfl⟩
  case round =>
    obtain ⟨k, rfl, hk, hk51, rfl, rfl, rfl, ht, rfl⟩ := hrel
    rw [HN.out] at hk
    by_cases hlt : k < N
    · obtain ⟨x, hx⟩ : ∃ x, l[k]? = some x := ⟨_, List.getElem?_eq_getElem (by rw [HN.out]; exact hlt)⟩
      obtain ⟨b, o, hq, c0⟩ := HA.out.get hx
      subst hq
      have hxs := HSZ.out x (List.mem_of_getElem? hx)
      have e1 := any_take (·.q) l k x hx
      have e2 := any_take hardR l k x hx
      have e3 := totR_take l k x hx
      obtain ⟨xt, xq, xs, xb⟩ := x
      have d0 := c0 k _ hx 0 _ rfl
      have d1 := c0 k _ hx 1 _ rfl
      have d2 := c0 k _ hx 2 _ rfl
      have d3 := c0 k _ hx 3 _ rfl
      rw [Nat.add_zero] at d0
      simp only at d0 d1 d2 d3 hxs e1 e2 e3
      obtain ⟨Qk, hQ⟩ : ∃ Q, (l.take k).any (·.q) = Q := ⟨_, rfl⟩
      obtain ⟨Hk, hH⟩ : ∃ Q, (l.take k).any hardR = Q := ⟨_, rfl⟩
      obtain ⟨tk, htk⟩ : ∃ t : Int, (totR (l.take k) : Int) = t := ⟨_, rfl⟩
      obtain ⟨zs, hzs⟩ : ∃ t : Int, (xt.size : Int) = t := ⟨_, rfl⟩
      rw [hQ] at e1
      rw [hH] at e2
      rw [hQ, hH, htk]
      have E := Lib.hid (And.intro e1 (And.intro e2 e3))
      have HZ := Lib.hid hzs
      have HT := Lib.hid htk
      have HTT := Lib.hid ht
      have hwr : IntKind.i64.wrap (tk + zs) = tk + zs := IntWalk.i64_in _ ⟨by omega, by omega⟩
      have HLT := Lib.hid hlt
      have hltI : (k : Int) < (N : Int) := by omega
      have hk1 : (k : Int) + 1 ≤ 9223372036854775807 := by omega
      have H51 := Lib.hid hk51
      clear hx c0 hxs e1 e2 e3 hQ hH htk hlt hk hk51 ht
      by_cases hbig : 300 < tk + zs
      · have g1 : decide (300 < tk + zs) = true := decide_eq_true hbig
        clear hbig
        cases Qk <;> cases Hk <;> cases xq <;> cases xs
        all_goals
          go_wp2_with fail
          go_ret
          exact ⟨rfl, Below.refl _ _⟩
      · have g1 : decide (300 < tk + zs) = false := decide_eq_false hbig
        have HBG := Lib.hid hbig
        clear hbig
        by_cases hk5 : 50 < (k : Int)
        · have g2 : decide (50 < (k : Int)) = true := decide_eq_true hk5
          clear hk5
          cases Qk <;> cases Hk <;> cases xq <;> cases xs
          all_goals
            go_wp2_with fail
            go_ret
            exact ⟨rfl, Below.refl _ _⟩
        · have g2 : decide (50 < (k : Int)) = false := decide_eq_false hk5
          have HK5 := Lib.hid hk5
          clear hk5
          cases Qk <;> cases Hk <;> cases xq <;> cases xs <;> cases xb
          all_goals
            go_wp2_with fail
            go_roundw
            case rel => exact ⟨k + 1, by simp, by rw [HN.out]; exact HLT.out, by have := HK5.out; omega, by rw [E.out.1]; rfl, by rw [E.out.2.1]; rfl, by rw [E.out.2.2]; have := HT.out; have := HZ.out; congr 1; omega, by rw [E.out.2.2]; have := HBG.out; have := HT.out; have := HZ.out; omega, rfl⟩
            case measure => have := HLT.out; simp [intOf]; omega
    · have hltI : ¬ (k : Int) < (N : Int) := by omega
      have hkN : l.take k = l := List.take_of_length_le (by rw [HN.out]; omega)
      rw [hkN] at ht ⊢
      have HF := Lib.hid (fields_any l _ wr HA.out (by rw [HN.out]; omega) (fun x hx => by have := totR_le l x hx; omega))
      have HOK := Lib.hid (fields_ok l)
      obtain ⟨Q, hQ⟩ : ∃ Q, l.any (·.q) = Q := ⟨_, rfl⟩
      obtain ⟨H, hH⟩ : ∃ Q, l.any hardR = Q := ⟨_, rfl⟩
      rw [hQ, hH] at HOK ⊢
      obtain ⟨L, hL⟩ : ∃ L, fieldsM l = L := ⟨_, rfl⟩
      rw [hL] at HF HOK
      obtain ⟨TT, hTT⟩ : ∃ t : Int, (totR l : Int) = t := ⟨_, rfl⟩
      rw [hTT]
      clear ht hkN hk hk51 hlt hQ hH hL hTT
      go_wp2_with (go_at_call 12; refine HF.out.mono ?_; rintro e w1 ⟨u, rfl, hr, hb⟩; obtain ⟨vs, rv, hvl, hev⟩ := hr.is; obtain ⟨pv, cv, rfl⟩ := rv.shape; obtain ⟨NV, hNV⟩ : ∃ n, vs.length = n := ⟨_, rfl⟩; have HV := Lib.hid (And.intro rv (And.intro hvl hev)); have HNV := Lib.hid hNV; have B1 := Lib.hid hb; have hfew := rv.few; unfold maxLen at hfew; rw [hNV] at hfew ⊢; clear hr hb rv hvl hev hNV)
      go_loopw [8] (fun iv wq => ∃ i : Nat, iv = .int .i64 (i : Int) ∧ i ≤ NV ∧ Below w1.heap.size w1 wq) (fun iv _ => NV - (intOf iv).toNat)
      case atStart => exact ⟨0, rfl, Nat.zero_le _, Below.refl _ _⟩
      case round =>
        obtain ⟨i, rfl, hi, hb2⟩ := hrel
        have HB2 := Lib.hid hb2
        by_cases hil : i < NV
        · obtain ⟨x, hx⟩ : ∃ x, vs[i]? = some x := ⟨_, List.getElem?_eq_getElem (by rw [HNV.out]; exact hil)⟩
          obtain ⟨fl, hfl⟩ : ∃ fl, L[i]? = some fl := ⟨_, List.getElem?_eq_getElem (by rw [← HV.out.2.1, HNV.out]; exact hil)⟩
          obtain ⟨bv, ov, hpv, hcv⟩ := HV.out.1.get hx
          subst hpv
          have d0 := hcv i x hx 0 _ rfl
          rw [Nat.mul_one, Nat.add_zero] at d0
          have hRx := HV.out.2.2 i x fl hx hfl
          obtain ⟨pu, nu, cu⟩ := x
          simp only [slV] at d0 hRx
          obtain ⟨hnu, -, -⟩ := hRx.room
          have hok := HOK.out fl (List.mem_of_getElem? hfl)
          have HRX := Lib.hid hRx
          have HD0 := Lib.hid d0
          have hiI : (i : Int) < (NV : Int) := by omega
          have hi1 : (i : Int) + 1 ≤ 9223372036854775807 := by omega
          have d1 := (hb2.cell (World.block_lt_of_cell? w1 _ d0)).trans d0
          have hcase : (((nu : Int) == 0) = true ∧ Q = true) ∨ ((nu : Int) == 0) = false := by
            by_cases h0 : nu = 0
            · left
              refine ⟨by rw [h0]; rfl, hok.1 (List.eq_nil_of_length_eq_zero (by rw [← hnu]; exact h0))⟩
            · right
              refine beq_eq_false_iff_ne.2 (by omega)
          have HOB := Lib.hid hok.2
          have HIL := Lib.hid hil
          have hnf := hRx.few
          unfold maxLen at hnf
          rw [← hnu] at hnf
          have HNU := Lib.hid hnu
          clear hcv hx hfl d0 hRx hok hb2 hil hi hnu
          rcases hcase with ⟨hm, rfl⟩ | hm
          all_goals
            go_wp2_with fail
            go_loopw [9] (fun kv wz => ∃ k : Nat, kv = .int .i64 (k : Int) ∧ k ≤ nu ∧ Below w1.heap.size w1 wz) (fun kv _ => nu - (intOf kv).toNat)
            case atStart => exact ⟨0, rfl, Nat.zero_le _, HB2.out⟩
            case round =>
              obtain ⟨k, rfl, hk, hb3⟩ := hrel
              have HB3 := Lib.hid hb3
              have d2 := (hb3.cell (World.block_lt_of_cell? w1 _ HD0.out)).trans HD0.out
              clear hm d1
              by_cases hkl : k < nu
              · obtain ⟨y, hy⟩ : ∃ y, fl[k]? = some y := ⟨_, List.getElem?_eq_getElem (by rw [← HNU.out]; exact hkl)⟩
                obtain ⟨bc, oc, hpu, hcc⟩ := HRX.out.get hy
                subst hpu
                have y0 := hcc k y hy 0 _ rfl
                have y1 := hcc k y hy 1 _ rfl
                have hob := HOB.out y (List.mem_of_getElem? hy)
                obtain ⟨yr, yq⟩ := y
                simp only at y0 y1 hob
                rw [Nat.add_zero] at y0
                have z0 := (hb3.cell (World.block_lt_of_cell? w1 _ y0)).trans y0
                have z1 := (hb3.cell (World.block_lt_of_cell? w1 _ y1)).trans y1
                have hkI : (k : Int) < (nu : Int) := by omega
                have hk1 : (k : Int) + 1 ≤ 9223372036854775807 := by omega
                have HKL := Lib.hid hkl
                have HBA := Lib.hid (hb3.alloc hb3.size (.cells #[.int .i32 yr, .bool yq] 36))
                clear hcc hy y0 y1 hb3 hk hkl
                cases yq
                · cases H
                  · have hbl := hob rfl rfl
                    unfold blankR at hbl
                    have hbl := of_decide_eq_false hbl
                    have g1 : (yr == 32) = false := beq_eq_false_iff_ne.2 (by omega)
                    have g2 : (yr == 9) = false := beq_eq_false_iff_ne.2 (by omega)
                    have g3 : (yr == 10) = false := beq_eq_false_iff_ne.2 (by omega)
                    clear hob hbl
                    go_wp2_with fail
                    go_roundw
                    case rel => exact ⟨k + 1, by simp, HKL.out, HBA.out⟩
                    case measure => have := HKL.out; simp [intOf]; omega
                  · clear hob
                    go_wp2_with fail
                    go_roundw
                    case rel => exact ⟨k + 1, by simp, HKL.out, HBA.out⟩
                    case measure => have := HKL.out; simp [intOf]; omega
                · clear hob
                  go_wp2_with fail
                  go_roundw
                  case rel => exact ⟨k + 1, by simp, HKL.out, HBA.out⟩
                  case measure => have := HKL.out; simp [intOf]; omega
              · have hkI : ¬ (k : Int) < (nu : Int) := by omega
                clear hb3 hk hkl
                go_wp2_with fail
                go_roundw
                case rel => exact ⟨i + 1, by simp, HIL.out, HB3.out⟩
                case measure => have := HIL.out; simp [intOf]; omega
        · have hiI : ¬ (i : Int) < (NV : Int) := by omega
          clear hb2 hil hi
          go_wp2_with (go_at_call 11; (with_reducible refine (known_any _).mono ?_); rintro e w6 ⟨rfl, hb⟩; have B6 := Lib.hid (HB2.out.trans (hb.mono HB2.out.size)); clear hb)
          go_ret
          exact ⟨rfl, B1.out.trans (B6.out.mono B1.out.size)⟩
end Go.Proofs.Ytfepkhlifpbkfaa
