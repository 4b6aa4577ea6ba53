/-
  Proved: contracts of the statements' own lit, special and arith. Conditions: texts of at most 2^20 bytes; the library's tables lie as they should.
-/
import Derived.Test.YtloaalapkmbgeaaDoorTreePart
import Derived.Test.YtloaalapkmbgeaaDoorRexSets
namespace Go.Proofs.YtloaalapkmbgeaaDoor
open Go Go.RowKit GlyphMath LexMath TreeMath

theorem meta_byte (b : UInt8) : metaN b.toNat = metaB.contains b := by
  have h : (List.range 256).all (fun n => metaN n == metaB.contains (UInt8.ofNat n)) = true := by decide +kernel
  have h1 := List.all_eq_true.1 h b.toNat (List.mem_range.2 b.toNat_lt)
  have h2 : UInt8.ofNat b.toNat = b := by simp
  rw [h2] at h1
  simpa using h1
theorem within_byte (b : UInt8) : metaW.contains b = (((b.toNat : Int) == 39) || (((b.toNat : Int) == 34) || (((b.toNat : Int) == 36) || (((b.toNat : Int) == 92) || ((b.toNat : Int) == 125))))) := by
  have h : (List.range 256).all (fun n => metaW.contains (UInt8.ofNat n) == (((n : Int) == 39) || (((n : Int) == 34) || (((n : Int) == 36) || (((n : Int) == 92) || ((n : Int) == 125)))))) = true := by decide +kernel
  have h1 := List.all_eq_true.1 h b.toNat (List.mem_range.2 b.toNat_lt)
  have h2 : UInt8.ofNat b.toNat = b := by simp
  rw [h2] at h1
  simpa using h1
theorem get_is (s : ByteArray) (k : Nat) (h : k < s.size) : s.get! k = s[k] := by
  have h1 : k < s.data.size := h
  show s.data[k]! = _
  rw [getElem!_pos s.data k h1]
  rfl
theorem empty_pos {α : Type} (l : List α) : decide ((0 : Int) < (l.length : Int)) = !l.isEmpty := by
  cases l with
  | nil => rfl
  | cons a r => exact decide_eq_true (by rw [List.length_cons]; omega)

set_option maxHeartbeats 1000000 in
set_option maxRecDepth 100000 in
theorem trlit_any (p : Pt) (up : Option Addr) (uc : Nat) (wi : Bool) (w : World) (hs : p.text.length ≤ 1048576) (hT : Tabs w) :
    Calls Tryd.prog 87 #[partV p (.slice up p.word.length uc), .bool wi] w fun e w' => e = .returned (.bool (p.op.isEmpty && (p.word.isEmpty && litT wi p))) ∧ Below w.heap.size w w' := by
  obtain ⟨kd, tx, op, wd, q⟩ := p
  have HV := Lib.hid (fun W (hW : Tabs W) => rvalid_any (T tx) W (by show tx.length ≤ _; simp only at hs; omega) hW)
  have HT := Lib.hid (fun o => hT.below (below_one w o))
  have HB := Lib.hid (fun o => below_one w o)
  obtain ⟨R, hR⟩ : ∃ R, (op.isEmpty && (wd.isEmpty && litT wi ⟨kd, tx, op, wd, q⟩)) = R := ⟨_, rfl⟩
  have HL := Lib.hid (show R = (op.isEmpty && (wd.isEmpty && (isText (T tx) && (q || (!tx.isEmpty && !anyIn tx (if wi then metaW else metaB)))))) from by rw [← hR]; rfl)
  show Calls _ _ #[.agg #[.int .i64 kd, .string (T tx), .string (T op), .slice up wd.length uc, .bool q], _] _ fun e w' => e = .returned (.bool (op.isEmpty && (wd.isEmpty && litT wi ⟨kd, tx, op, wd, q⟩))) ∧ _
  rw [hR]
  have hemp : (T op).toList.isEmpty = op.isEmpty := by rw [Lib.toList_data]
  have hpos := empty_pos wd
  have HTX := Lib.hid (show (T tx).data.toList = tx from rfl)
  have hsz : (T tx).size ≤ 1048576 := hs
  have htx : (T tx).toList.isEmpty = tx.isEmpty := by rw [Lib.toList_data]
  obtain ⟨A, hA⟩ : ∃ A, isText (T tx) = A := ⟨_, rfl⟩
  obtain ⟨E, hE⟩ : ∃ E, op.isEmpty = E := ⟨_, rfl⟩
  obtain ⟨F, hF⟩ : ∃ F, wd.isEmpty = F := ⟨_, rfl⟩
  obtain ⟨L, hL⟩ : ∃ L, wd.length = L := ⟨_, rfl⟩
  rw [hL] at hpos ⊢
  rw [hE, hF, hA] at HL
  rw [hE] at hemp
  rw [hF] at hpos
  rw [hA] at HV
  generalize place (T tx) = Q at HV
  generalize T op = s2 at hemp ⊢
  clear hR hA hE hF hL hs hT
  cases A with
  | false =>
    have HR := Lib.hid (show R = false by rw [HL.out]; cases E <;> cases F <;> rfl)
    rw [HR.out]
    clear HR HL hemp hpos htx hsz HTX
    go_enter Tryd.func87, Tryd.ntmps87
    go_wp2_with (go_at_call 20; refine (HV.out _ (HT.out _)).mono ?_; rintro e w1 ⟨rfl, hb⟩; have HB1 := Lib.hid ((HB.out _).trans (hb.mono (HB.out _).size)); clear hb)
    go_ret
    exact ⟨rfl, HB1.out⟩
  | true =>
    cases E with
    | false =>
      have HR := Lib.hid (show R = false by rw [HL.out]; rfl)
      rw [HR.out]
      clear HR HL hpos htx hsz HTX
      go_enter Tryd.func87, Tryd.ntmps87
      go_wp2_with (go_at_call 20; refine (HV.out _ (HT.out _)).mono ?_; rintro e w1 ⟨rfl, hb⟩; obtain ⟨c0, c1, c2, c3, c4⟩ := (PC.new w kd _ _ (.slice up L uc) q 30).below hb; have HB1 := Lib.hid ((HB.out _).trans (hb.mono (HB.out _).size)); clear hb)
      go_ret
      exact ⟨rfl, HB1.out⟩
    | true =>
      cases F with
      | false =>
        have HR := Lib.hid (show R = false by rw [HL.out]; rfl)
        rw [HR.out]
        have hl : (0 : Int) < (L : Int) := of_decide_eq_true hpos
        clear HR HL hpos htx hsz HTX
        go_enter Tryd.func87, Tryd.ntmps87
        go_wp2_with (go_at_call 20; refine (HV.out _ (HT.out _)).mono ?_; rintro e w1 ⟨rfl, hb⟩; obtain ⟨c0, c1, c2, c3, c4⟩ := (PC.new w kd _ _ (.slice up L uc) q 30).below hb; have HB1 := Lib.hid ((HB.out _).trans (hb.mono (HB.out _).size)); clear hb)
        go_ret
        exact ⟨rfl, HB1.out⟩
      | true =>
        have hl0 : ¬ (0 : Int) < (L : Int) := of_decide_eq_false hpos
        have hl : ¬ 0 < L := by omega
        have hd : decide (0 < L) = false := decide_eq_false hl
        clear hl0
        cases q with
        | true =>
          have HR := Lib.hid (show R = true by rw [HL.out]; rfl)
          rw [HR.out]
          clear HR HL hpos htx hsz HTX
          go_enter Tryd.func87, Tryd.ntmps87
          go_wp2_with (go_at_call 20; refine (HV.out _ (HT.out _)).mono ?_; rintro e w1 ⟨rfl, hb⟩; obtain ⟨c0, c1, c2, c3, c4⟩ := (PC.new w kd _ _ (.slice up L uc) true 30).below hb; have HB1 := Lib.hid ((HB.out _).trans (hb.mono (HB.out _).size)); clear hb)
          go_ret
          exact ⟨rfl, HB1.out⟩
        | false =>
          have HR := Lib.hid (show R = (!tx.isEmpty && !anyIn tx (if wi then metaW else metaB)) from HL.out)
          obtain ⟨s, hss⟩ : ∃ s, T tx = s := ⟨_, rfl⟩
          rw [hss] at HV HTX hsz htx ⊢
          clear HL hpos hss
          cases wi with
          | true =>
            go_enter Tryd.func87, Tryd.ntmps87
            go_wp2_with (go_at_call 20; refine (HV.out _ (HT.out _)).mono ?_; rintro e w1 ⟨rfl, hb⟩; obtain ⟨c0, c1, c2, c3, c4⟩ := (PC.new w kd s s2 (.slice up L uc) false 30).below hb; have HB1 := Lib.hid ((HB.out _).trans (hb.mono (HB.out _).size)); clear hb)
            go_loopw [7] (fun i wr => ∃ k : Nat, i = .int .i64 (k : Int) ∧ k ≤ s.size ∧ R = (!tx.isEmpty && !anyIn (tx.drop k) metaW) ∧ wr = w1) (fun i _ => s.size - (intOf i).toNat)
            case atStart => exact ⟨0, rfl, Nat.zero_le _, by rw [List.drop_zero]; exact HR.out, rfl⟩
            case round =>
              obtain ⟨k, rfl, hk, hr, rfl⟩ := hrel
              by_cases hlt : k < s.size
              · have hj : (k : Int) < (s.size : Int) := by omega
                have hg : tx.drop k = s.get! k :: tx.drop (k + 1) := by rw [← HTX.out]; exact get_drop s k hlt
                rw [hg, any_cons, get_is s k hlt] at hr
                have HKK := Lib.hid hlt
                obtain ⟨M, hM⟩ : ∃ M, metaW.contains (s[k]'hlt) = M := ⟨_, rfl⟩
                rw [hM] at hr
                have hw := within_byte (s[k]'hlt)
                rw [hM] at hw
                have HF := Lib.hid (show (((s[k]'hlt).toNat : Int) = 39 ∨ ((s[k]'hlt).toNat : Int) = 34 ∨ ((s[k]'hlt).toNat : Int) = 36 ∨ ((s[k]'hlt).toNat : Int) = 92 ∨ ((s[k]'hlt).toNat : Int) = 125) → R = false from fun h => by
                  have e : M = true := by rw [hw]; simpa using h
                  rw [hr, e]; simp)
                have HN := Lib.hid (show ¬ (((s[k]'hlt).toNat : Int) = 39 ∨ ((s[k]'hlt).toNat : Int) = 34 ∨ ((s[k]'hlt).toNat : Int) = 36 ∨ ((s[k]'hlt).toNat : Int) = 92 ∨ ((s[k]'hlt).toNat : Int) = 125) → R = (!tx.isEmpty && !anyIn (tx.drop (k + 1)) metaW) from fun h => by
                  have e : M = false := by rw [hw]; simpa using h
                  rw [hr, e, Bool.false_or])
                clear hM hw
                clear hr hg hk HR
                go_wp2_with fail
                iterate 4
                  · go_ret
                    exact ⟨ret_bool (HF.out (by omega)).symm, HB1.out⟩
                · go_ret
                  exact ⟨ret_bool (HF.out (by simp_all)).symm, HB1.out⟩
                go_roundw
                case rel => exact ⟨k + 1, by go_num, HKK.out, HN.out (by simp_all), trivial⟩
                case measure => have := HKK.out; simp [intOf]; omega
              · have hj : ¬ (k : Int) < (s.size : Int) := by omega
                have HE := Lib.hid (show R = !tx.isEmpty from by
                  rw [hr, ← HTX.out, drop_all s k hlt]
                  exact Bool.and_true _)
                clear hr hlt hk HR
                obtain ⟨X, hX⟩ : ∃ X, tx.isEmpty = X := ⟨_, rfl⟩
                rw [hX] at htx HE
                cases X
                all_goals
                  go_wp2_with fail
                  go_ret
                  exact ⟨ret_bool HE.out.symm, HB1.out⟩
          | false =>
            go_enter Tryd.func87, Tryd.ntmps87
            go_wp2_with (go_at_call 20; refine (HV.out _ (HT.out _)).mono ?_; rintro e w1 ⟨rfl, hb⟩; obtain ⟨c0, c1, c2, c3, c4⟩ := (PC.new w kd s s2 (.slice up L uc) false 30).below hb; have HB1 := Lib.hid ((HB.out _).trans (hb.mono (HB.out _).size)); clear hb)
            go_loopw [7] (fun i wr => ∃ k : Nat, i = .int .i64 (k : Int) ∧ k ≤ s.size ∧ R = (!tx.isEmpty && !anyIn (tx.drop k) metaB) ∧ wr = w1) (fun i _ => s.size - (intOf i).toNat)
            case atStart => exact ⟨0, rfl, Nat.zero_le _, by rw [List.drop_zero]; exact HR.out, rfl⟩
            case round =>
              obtain ⟨k, rfl, hk, hr, rfl⟩ := hrel
              by_cases hlt : k < s.size
              · have hj : (k : Int) < (s.size : Int) := by omega
                have hg : tx.drop k = s.get! k :: tx.drop (k + 1) := by rw [← HTX.out]; exact get_drop s k hlt
                rw [hg, any_cons, get_is s k hlt] at hr
                have HKK := Lib.hid hlt
                obtain ⟨M, hM⟩ : ∃ M, metaB.contains (s[k]'hlt) = M := ⟨_, rfl⟩
                rw [hM] at hr
                have HM := Lib.hid (show Calls Tryd.prog 44 #[.int .u8 ((s[k]'hlt).toNat : Int)] wr fun e w' => e = .returned (.bool M) ∧ wr = w' from by
                  have := rmeta_any (s[k]'hlt).toNat wr
                  rwa [meta_byte, hM] at this)
                have HRR := Lib.hid hr
                clear hr hg hk HR hM
                cases M
                · go_wp2_with (go_at_call 44; refine HM.out.mono ?_; rintro e w2 ⟨rfl, rfl⟩)
                  go_roundw
                  case rel => exact ⟨k + 1, by go_num, HKK.out, HRR.out, trivial⟩
                  case measure => have := HKK.out; simp [intOf]; omega
                · go_wp2_with (go_at_call 44; refine HM.out.mono ?_; rintro e w2 ⟨rfl, rfl⟩)
                  go_ret
                  exact ⟨ret_bool (by rw [HRR.out]; simp), HB1.out⟩
              · have hj : ¬ (k : Int) < (s.size : Int) := by omega
                have HE := Lib.hid (show R = !tx.isEmpty from by
                  rw [hr, ← HTX.out, drop_all s k hlt]
                  exact Bool.and_true _)
                clear hr hlt hk HR
                obtain ⟨X, hX⟩ : ∃ X, tx.isEmpty = X := ⟨_, rfl⟩
                rw [hX] at htx HE
                cases X
                all_goals
                  go_wp2_with fail
                  go_ret
                  exact ⟨ret_bool HE.out.symm, HB1.out⟩
end Go.Proofs.YtloaalapkmbgeaaDoor
