/-
  Proved: contracts of the statements' own special and arith. Conditions: texts of at most 2^20 bytes.
-/
import Derived.Test.YtloaalapkmbgeaaDoorTreeRLit
import Derived.Test.YtloaalapkmbgeaaDoorTreeVar
namespace Go.Proofs.YtloaalapkmbgeaaDoor
open Go Go.RowKit GlyphMath LexMath TreeMath

theorem other_byte (c : UInt8) : otherT [c] = (decide (49 ≤ (c.toNat : Int) ∧ (c.toNat : Int) ≤ 57) || (((c.toNat : Int) == 64) || (((c.toNat : Int) == 35) || ((c.toNat : Int) == 63)))) := by
  have h : (List.range 256).all (fun n => otherT [UInt8.ofNat n] == (decide (49 ≤ (n : Int) ∧ (n : Int) ≤ 57) || (((n : Int) == 64) || (((n : Int) == 35) || ((n : Int) == 63))))) = true := by decide +kernel
  have h1 := List.all_eq_true.1 h c.toNat (List.mem_range.2 c.toNat_lt)
  have h2 : UInt8.ofNat c.toNat = c := by simp
  rw [h2] at h1
  simpa using h1
theorem byte_eq (c : UInt8) (k : Nat) (hk : k < 256) : ((c.toNat : Int) == (k : Int)) = ([c] == [UInt8.ofNat k]) := by
  by_cases h : c = UInt8.ofNat k
  · have e : c.toNat = k := by rw [h]; exact byte_of k hk
    rw [e, h]
    simp
  · have e : ((c.toNat : Int) == (k : Int)) = false := int_ne fun e => h (by
      apply UInt8.toNat_inj.1
      rw [byte_of k hk]; omega)
    rw [e]
    symm
    simpa using h

set_option maxRecDepth 100000 in
theorem tspecial_any (l : List UInt8) (w : World) :
    Calls Tryd.prog 94 #[.string (T l)] w fun e w' => e = .returned (.bool (otherT l)) ∧ w = w' := by
  by_cases h : ∃ c, l = [c]
  · obtain ⟨c, rfl⟩ := h
    have HO := Lib.hid (other_byte c)
    obtain ⟨R, hR⟩ : ∃ R, otherT [c] = R := ⟨_, rfl⟩
    rw [hR] at HO ⊢
    have hsz : (((T [c]).size : Int) == 1) = true := rfl
    have hz : (T [c]).size = 1 := rfl
    have h0 : ∀ h, (T [c])[0]'h = c := fun _ => rfl
    have e1 : ((T [c]).toList == [64]) = ((c.toNat : Int) == 64) := by rw [Lib.toList_data]; exact (byte_eq c 64 (by decide)).symm
    have e2 : ((T [c]).toList == [35]) = ((c.toNat : Int) == 35) := by rw [Lib.toList_data]; exact (byte_eq c 35 (by decide)).symm
    have e3 : ((T [c]).toList == [63]) = ((c.toNat : Int) == 63) := by rw [Lib.toList_data]; exact (byte_eq c 63 (by decide)).symm
    obtain ⟨s, hs⟩ : ∃ s, T [c] = s := ⟨_, rfl⟩
    rw [hs] at hsz hz e1 e2 e3 ⊢
    have h0 : ∀ h, s[0]'h = c := by subst hs; exact h0
    clear hs hR
    go_enter Tryd.func94, Tryd.ntmps94
    go_wp2_with fail
    all_goals
      go_ret
      refine ⟨ret_bool ?_, rfl⟩
      rw [HO.out]
      refine bool_iff ?_
      simp
      omega
  · have hl : ¬ l.length = 1 := fun e => h (by
      match l, e with
      | [c], _ => exact ⟨c, rfl⟩)
    have HT := Lib.hid (show otherT l = false by
      match l, h with
      | [], _ => rfl
      | [c], h => exact absurd ⟨c, rfl⟩ h
      | _ :: _ :: _, _ => rfl)
    rw [HT.out]
    have hsz : (((T l).size : Int) == 1) = false := int_ne (by rw [T_size]; omega)
    show Calls _ _ #[.string (T l)] _ _
    generalize T l = s at hsz ⊢
    clear h hl HT
    go_enter Tryd.func94, Tryd.ntmps94
    go_wp2_with fail
    go_ret
    exact ⟨rfl, rfl⟩

theorem reck_byte (b : UInt8) (h40 : b ≠ 40) (h41 : b ≠ 41) : reckT b = reckonN b.toNat := by
  have h : (List.range 256).all (fun n => (n == 40) || ((n == 41) || (reckT (UInt8.ofNat n) == reckonN n))) = true := by decide +kernel
  have h1 := List.all_eq_true.1 h b.toNat (List.mem_range.2 b.toNat_lt)
  have h2 : UInt8.ofNat b.toNat = b := by simp
  rw [h2] at h1
  have h3 : (b.toNat == 40) = false := beq_eq_false_iff_ne.2 fun e => h40 (UInt8.toNat_inj.1 e)
  have h4 : (b.toNat == 41) = false := beq_eq_false_iff_ne.2 fun e => h41 (UInt8.toNat_inj.1 e)
  rw [h3, h4] at h1
  simpa using h1

set_option maxHeartbeats 1000000 in
set_option maxRecDepth 100000 in
theorem tarith_any (p : Pt) (up : Option Addr) (uc : Nat) (w : World) (hs : p.text.length ≤ 1048576) :
    Calls Tryd.prog 89 #[partV p (.slice up p.word.length uc)] w fun e w' => e = .returned (.bool (p.op.isEmpty && (p.word.isEmpty && arithT p.text 0))) ∧ Below w.heap.size w w' := by
  obtain ⟨kd, tx, op, wd, q⟩ := p
  have HB := Lib.hid (fun o => below_one w o)
  obtain ⟨R0, hR0⟩ : ∃ R0, arithT tx 0 = R0 := ⟨_, rfl⟩
  show Calls _ _ #[.agg #[.int .i64 kd, .string (T tx), .string (T op), .slice up wd.length uc, .bool q]] _ fun e w' => e = .returned (.bool (op.isEmpty && (wd.isEmpty && arithT tx 0))) ∧ _
  have HR0 := Lib.hid hR0
  rw [hR0]
  have hemp : (T op).toList.isEmpty = op.isEmpty := by rw [Lib.toList_data]
  have hpos : ((wd.length : Int) == 0) = wd.isEmpty := empty_len wd
  have HTX := Lib.hid (show (T tx).data.toList = tx from rfl)
  have hsz : (T tx).size ≤ 1048576 := hs
  obtain ⟨E, hE⟩ : ∃ E, op.isEmpty = E := ⟨_, rfl⟩
  obtain ⟨F, hF⟩ : ∃ F, wd.isEmpty = F := ⟨_, rfl⟩
  obtain ⟨L, hL⟩ : ∃ L, wd.length = L := ⟨_, rfl⟩
  rw [hL] at hpos ⊢
  rw [hE] at hemp ⊢
  rw [hF] at hpos ⊢
  generalize T op = s2 at hemp ⊢
  obtain ⟨s, hss⟩ : ∃ s, T tx = s := ⟨_, rfl⟩
  rw [hss] at HTX hsz ⊢
  have HSZ := Lib.hid hsz
  clear hR0 hE hF hL hs hss
  go_enter Tryd.func89, Tryd.ntmps89
  go_wp2_with fail
  obtain ⟨w1, hw1⟩ : ∃ w1, w.alloc (.cells #[.int .i64 kd, .string s, .string s2, .slice up L uc, .bool q] 30) = w1 := ⟨_, rfl⟩
  have HB1 := Lib.hid (show Below w.heap.size w w1 by rw [← hw1]; exact HB.out _)
  obtain ⟨c0, c1, c2, c3, c4⟩ : PC w1 w.heap.size kd s s2 (.slice up L uc) q := by rw [← hw1]; exact PC.new _ _ _ _ _ _ _
  rw [hw1]
  clear hw1
  go_loopw [3, 4] (fun d i wr => ∃ k n : Nat, d = .int .i64 (n : Int) ∧ i = .int .i64 (k : Int) ∧ k ≤ s.size ∧ n ≤ k ∧ arithT (tx.drop k) n = R0 ∧ wr = w1) (fun _ i _ => s.size - (intOf i).toNat)
  case atStart => exact ⟨0, 0, rfl, rfl, Nat.zero_le _, Nat.le_refl _, by rw [List.drop_zero]; exact HR0.out, rfl⟩
  case round =>
    obtain ⟨k, n, rfl, rfl, hk, hn, hr, rfl⟩ := hrel
    by_cases hlt : k < s.size
    · have hj : (k : Int) < (s.size : Int) := by omega
      have hg : tx.drop k = s.get! k :: tx.drop (k + 1) := by rw [← HTX.out]; exact get_drop s k hlt
      rw [hg, arithT, get_is s k hlt] at hr
      have HKK := Lib.hid hlt
      have HNK := Lib.hid hn
      have hn1 : (n : Int) + 1 ≤ 9223372036854775807 := by omega
      have hn0 : ¬ (n : Int) + 1 < 0 := by omega
      have hn2 : ¬ (n : Int) < 0 := by omega
      by_cases h40 : s[k]'hlt = 40
      · rw [if_pos h40] at hr
        have hb : ((s[k]'hlt).toNat : Int) = 40 := by rw [h40]; rfl
        have HR := Lib.hid hr
        clear hr hg hk hn h40
        go_wp2_with fail
        go_roundw
        case rel => exact ⟨k + 1, n + 1, by go_num, by go_num, HKK.out, by have := HNK.out; omega, HR.out, trivial⟩
        case measure => have := HKK.out; simp [intOf]; omega
      · rw [if_neg h40] at hr
        have hb40 : (((s[k]'hlt).toNat : Int) == 40) = false := int_ne fun e => h40 (UInt8.toNat_inj.1 (by show _ = 40; omega))
        by_cases h41 : s[k]'hlt = 41
        · rw [if_pos h41] at hr
          have hb : ((s[k]'hlt).toNat : Int) = 41 := by rw [h41]; rfl
          cases n with
          | zero =>
            have HR := Lib.hid (show false = R0 from hr)
            clear hr hg hk hn h40 h41 hb40 hn0 hn1 hn2
            go_wp2_with fail
            go_ret
            exact ⟨ret_bool (by rw [← HR.out]; simp), HB1.out⟩
          | succ m =>
            have HR := Lib.hid (show arithT (tx.drop (k + 1)) m = R0 from by simpa using hr)
            obtain ⟨M, hM⟩ : ∃ M : Int, ((m + 1 : Nat) : Int) = M := ⟨_, rfl⟩
            have hMm : M - 1 = (m : Int) := by omega
            rw [hM]
            have HM := Lib.hid hMm
            have hM1 : 1 ≤ M := by omega
            have hM2 : ¬ M - 1 < 0 := by omega
            have hM3 : M - 1 ≤ 9223372036854775807 := by omega
            clear hr hg hk hn h40 h41 hb40 hn0 hn1 hn2 hM hMm
            go_wp2_with fail
            go_roundw
            case rel => exact ⟨k + 1, m, by rw [← HM.out], by go_num, HKK.out, by have := HNK.out; omega, HR.out, trivial⟩
            case measure => have := HKK.out; simp [intOf]; omega
        · rw [if_neg h41, reck_byte _ h40 h41] at hr
          have hb41 : (((s[k]'hlt).toNat : Int) == 41) = false := int_ne fun e => h41 (UInt8.toNat_inj.1 (by show _ = 41; omega))
          obtain ⟨M, hM⟩ : ∃ M, reckonN (s[k]'hlt).toNat = M := ⟨_, rfl⟩
          rw [hM] at hr
          have HM := Lib.hid (show Calls Tryd.prog 84 #[.int .u8 ((s[k]'hlt).toNat : Int)] wr fun e w' => e = .returned (.bool M) ∧ wr = w' from by
            have := rreckon_any (s[k]'hlt).toNat (s[k]'hlt).toNat_lt wr
            rwa [hM] at this)
          have HR := Lib.hid hr
          clear hr hg hk hn h40 h41 hM hn0 hn1
          cases M
          · go_wp2_with (go_at_call 84; refine HM.out.mono ?_; rintro e w2 ⟨rfl, rfl⟩)
            go_ret
            exact ⟨ret_bool (by rw [← HR.out]; simp), HB1.out⟩
          · go_wp2_with (go_at_call 84; refine HM.out.mono ?_; rintro e w2 ⟨rfl, rfl⟩)
            go_roundw
            case rel => exact ⟨k + 1, n, rfl, by go_num, HKK.out, by have := HNK.out; omega, by have := HR.out; rwa [Bool.true_and] at this, trivial⟩
            case measure => have := HKK.out; simp [intOf]; omega
    · have hj : ¬ (k : Int) < (s.size : Int) := by omega
      rw [← HTX.out, drop_all s k hlt, arithT] at hr
      have HR := Lib.hid hr
      clear hr hlt hk hn
      by_cases h0 : n = 0
      · subst h0
        have HR1 := Lib.hid (show true = R0 from HR.out)
        cases E <;> cases F
        all_goals
          go_wp2_with fail
          go_ret
          first | exact ⟨ret_bool (by rw [← HR1.out]), HB1.out⟩ | exact ⟨ret_bool (by rw [← HR1.out]; rfl), HB1.out⟩ | exact ⟨ret_bool rfl, HB1.out⟩
      · have hn0 : ¬ (n : Int) = 0 := by omega
        have HR1 := Lib.hid (show false = R0 from by rw [← HR.out]; simp [h0])
        clear h0 HR
        go_wp2_with fail
        go_ret
        exact ⟨ret_bool (by simp [← HR1.out]), HB1.out⟩
end Go.Proofs.YtloaalapkmbgeaaDoor
