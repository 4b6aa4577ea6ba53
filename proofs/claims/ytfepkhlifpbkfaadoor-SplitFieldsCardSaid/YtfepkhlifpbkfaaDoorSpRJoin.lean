/-
  Proved: contract of the statements' own Join. Conditions: the library's tables lie as they should; at most 1000 runs, each of at most 1000 bytes.
-/
import Derived.Test.YtfepkhlifpbkfaaDoorSpJoin
import Derived.Test.YtfepkhlifpbkfaaDoorRdStep
namespace Go.Proofs.YtfepkhlifpbkfaaDoor
open Go Go.RowKit GlyphMath GlMath SpMath

set_option maxRecDepth 8000 in
set_option maxHeartbeats 2000000 in
theorem rjoin_any (l : List Rn) (v : Value) (w : World) (h : Rd 4 rnC w v l) (hl : l.length ≤ 1000) (hs : ∀ x ∈ l, x.text.size ≤ 1000) (hT : Tabs w) :
    Calls Tryd.prog 11 #[v] w fun e w' => ∃ u, e = .returned u ∧ RowOf w' w.heap.size u (joinM l) ∧ Below w.heap.size w w' := by
  obtain ⟨p, c, rfl⟩ := h.shape
  have HA := Lib.hid h
  obtain ⟨N, hN⟩ : ∃ N, l.length = N := ⟨_, rfl⟩
  have HN := Lib.hid hN
  have HS := Lib.hid hs
  have HT := Lib.hid hT
  rw [hN] at hl HA
  rw [hN]
  obtain ⟨i0, hi1, hi2, hi3, hi4⟩ := info_parts infoCh
  have HI := Lib.hid (And.intro hi1 (And.intro hi2 (And.intro hi3 hi4)))
  clear h hN hs hT hi1 hi2 hi3 hi4
  go_enter Tryd.func11, Tryd.ntmps11
  go_wp2_with fail
  go_loopw [3, 4] (fun u i wr => ∃ k : Nat, i = .int .i64 (k : Int) ∧ k ≤ N ∧ RowOf wr w.heap.size u (joinM (l.take k)) ∧ Below w.heap.size w wr) (fun _ i _ => N - (intOf i).toNat)
  case atStart => exact ⟨0, rfl, Nat.zero_le _, World.ownsRow_nil _ _ _ _, Below.refl _ _⟩
  case round =>
    obtain ⟨k, rfl, hk, hrow, hb⟩ := hrel
    have HB := Lib.hid hb
    by_cases hlt : k < N
    · obtain ⟨x, hx⟩ : ∃ x, l[k]? = some x := ⟨_, List.getElem?_eq_getElem (by rw [HN.out]; exact hlt)⟩
      obtain ⟨b, o, hq, c0⟩ := (HA.out.below hb (Nat.le_refl _)).get hx
      subst hq
      have hxs := HS.out x (List.mem_of_getElem? hx)
      have hj := joinM_take l k x hx
      have hjl := joinM_len (l.take k) (fun y hy => HS.out y (List.mem_of_mem_take hy))
      rw [List.length_take, HN.out, Nat.min_eq_left (Nat.le_of_lt hlt)] at hjl
      have hjl2 : (joinM (l.take k)).length ≤ 1001000 := by have : k * 1001 ≤ 1000 * 1001 := Nat.mul_le_mul_right _ (by omega); omega
      obtain ⟨J, hJ⟩ : ∃ J, joinM (l.take k) = J := ⟨_, rfl⟩
      rw [hJ] at hj hrow hjl2
      obtain ⟨xt, xq, xs, xb⟩ := x
      have d0 := c0 k _ hx 0 _ rfl
      have d1 := c0 k _ hx 1 _ rfl
      have d3 := c0 k _ hx 3 _ rfl
      rw [Nat.add_zero] at d0
      simp only at d0 d1 d3 hxs
      have HLT := Lib.hid hlt
      have hltI : (k : Int) < (N : Int) := by omega
      have hk1 : (k : Int) + 1 ≤ 9223372036854775807 := by omega
      cases xb
      · have hj2 : joinM (l.take (k + 1)) = J ++ chM xq (letters xt) := hj
        obtain ⟨M, hM⟩ : ∃ M, chM xq (letters xt) = M := ⟨_, rfl⟩
        obtain ⟨JM, hJM⟩ : ∃ JM, J ++ M = JM := ⟨_, rfl⟩
        rw [hM, hJM] at hj2
        have HJ := Lib.hid hj2
        have hml : M.length ≤ 1000 := by have := letters_length xt; rw [← hM, chM_len]; omega
        have HC := Lib.hid (rchars_any xt xq wr.drew (by omega) (HT.out.below (hb.drew)))
        rw [hM] at HC
        have HJM := Lib.hid hJM
        have HR := Lib.hid hrow
        have HZ := Lib.hid (show (J.length + M.length) * 8 ≤ 140737488355328 ∧ J.length + M.length ≤ maxLen from by unfold maxLen; omega)
        clear hrow hb hk hlt hx c0 hxs hj hjl hjl2 hJ hM hJM hj2 hml
        go_wp2_with fail
        go_region_law (first
          | (refine step_append_rd _ (by rfl) (.tmp 20) (.tmp 31) 32 (by rfl) 48 i0 (.agg #[.int .i32 0, .bool false]) 8 Tryd.underlying32 HI.out.1 HI.out.2.1 HI.out.2.2.1 HI.out.2.2.2 (by rfl) cE w.heap.size u3 J M (by rfl) H2.out.1 _ (by rfl) H2.out.2.1 HZ.out.1 HZ.out.2 H2.out.2.2.size JM HJM.out ?_; intro v7 w7 hown hg; have H7 := Lib.hid (And.intro hown hg); clear hown hg)
          | (go_simp; go_at_call 14; refine HC.out.mono ?_; rintro e w2 ⟨v2, rfl, hr2, hb2⟩; have H2 := Lib.hid (And.intro (HR.out.below (show Below wr.heap.size wr w2 from (Below.refl wr.heap.size wr).drew.trans hb2)) (And.intro (Rd.of_own cE hr2) (HB.out.trans ((show Below wr.heap.size wr w2 from (Below.refl wr.heap.size wr).drew.trans hb2).mono HB.out.size)))); clear hr2 hb2))
        all_goals
          go_wp2_with fail
          go_roundw
          case rel => exact ⟨k + 1, by simp, HLT.out, by rw [HJ.out]; exact H7.out.1, H2.out.2.2.grown H7.out.2 H2.out.2.2.size (fun j e => (World.ownsRow.lt H2.out.1 j e).1)⟩
          case measure => have := HLT.out; simp [intOf]; omega
      · have HJ := Lib.hid (show joinM (l.take (k + 1)) = J ++ [(32, false)] from hj)
        obtain ⟨n, hn⟩ : ∃ n, J.length = n := ⟨_, rfl⟩
        have HNN := Lib.hid hn
        have HH := Lib.hid (And.intro hrow hb)
        have HO := Lib.hid (show ∀ o, (wr.alloc o).ownsRow w.heap.size 48 2 u3 n (J.flatMap cC) from fun o => by have := hrow.below ((Below.refl _ wr).alloc (Nat.le_refl _) o); unfold RowOf at this; rwa [hn] at this)
        have HZ := Lib.hid (show n + 1 ≤ maxLen ∧ (n + 1) * 8 ≤ 140737488355328 ∧ ∀ o, w.heap.size ≤ (wr.alloc o).heap.size from ⟨by unfold maxLen; omega, by omega, fun o => by have := hb.size; simp; omega⟩)
        have HCN := Lib.hid (rchar_news wr (.int .i32 32) (.bool false))
        have HC1 := Lib.hid (rchar_one 32 false)
        clear hrow hb hk hlt hx c0 hxs hj hjl hjl2 hJ hn
        go_wp2_with (at_builtin; refine wpList_append_own _ rfl _ _ 32 rfl w.heap.size 48 i0 (.agg #[.int .i32 0, .bool false]) 2 8 Tryd.underlying32 HI.out.1 HI.out.2.1 HI.out.2.2.1 HI.out.2.2.2 rfl (by decide) u3 n (J.flatMap cC) rfl (HO.out _) ⟨wr.heap.size, 0, none⟩ 1 1 [.int .i32 32, .bool false] (by rfl) (by rfl) HCN.out HC1.out HZ.out.1 HZ.out.2.1 (HZ.out.2.2 _) ?_; intro v7 w7 hown hg hn; clear hn; have HO7 := Lib.hid hown; have HG7 := Lib.hid hg; clear hown hg)
        go_roundw
        case rel =>
          have hr7 : RowOf w7 w.heap.size v7 (J ++ [(32, false)]) := RowOf.add HNN.out HO7.out
          refine ⟨k + 1, by simp, HLT.out, by rw [HJ.out]; exact hr7, ?_⟩
          have hbA := HH.out.2.alloc HH.out.2.size (.cells #[.int .i32 32, .bool false] 48)
          exact hbA.grown HG7.out hbA.size (fun j e => (World.ownsRow.lt HH.out.1 j e).1)
        case measure => have := HLT.out; simp [intOf]; omega
    · have hltI : ¬ (k : Int) < (N : Int) := by omega
      have HE := Lib.hid (show RowOf wr w.heap.size u3 (joinM l) by
        rwa [List.take_of_length_le (by rw [HN.out]; omega)] at hrow)
      clear hrow hb hlt hk
      go_wp2_with fail
      go_ret
      exact ⟨_, rfl, HE.out, HB.out⟩
end Go.Proofs.YtfepkhlifpbkfaaDoor
