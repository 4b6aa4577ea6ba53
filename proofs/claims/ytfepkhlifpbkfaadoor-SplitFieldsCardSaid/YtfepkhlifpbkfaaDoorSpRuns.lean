/-
  Proved: contracts of the statements' own runs, and of their Same at rows of the same fields. Conditions: at most 1000 runs; as many fields as a row may have.
-/
import Derived.Test.YtfepkhlifpbkfaaDoorSpRChars
import Derived.Test.YtfepkhlifpbkfaaDoorSpEnd
import Derived.Deep.RegionLaw
namespace Go.Proofs.YtfepkhlifpbkfaaDoor
open Go Go.RowKit GlyphMath GlMath SpMath

theorem infoRun15 : (Tryd.prog.info? 45).map (fun i => (i.zero, i.size, i.bytes)) = some (some (.agg #[.string ByteArray.empty, .bool false, .bool false, .bool false]), 4, 24) := by kernel_rfl
theorem run_news (w : World) (a b c d : Value) (t : TypeId) : ∀ j u, ([a, b, c, d] : List Value)[j]? = some u → (w.alloc (.cells #[a, b, c, d] t)).drew.cell? ((⟨w.heap.size, 0, none⟩ : Addr).add j) = some u := fun j u hu => World.news_of_block (heap_alloc_new w _) j u (by simpa using hu)
theorem rn_one (x : Rn) : ∀ u ∈ rnC x, u.oneCell' = true := rnE.one x
set_option maxRecDepth 8000 in
set_option maxHeartbeats 2000000 in
theorem runs_any (l : List Rn) (v : Value) (w : World) (h : Rd 4 rnC w v l) (hl : l.length ≤ 1000) :
    Calls Tryd.prog 8 #[v] w fun e w' => ∃ u, e = .returned u ∧ Rd 4 rnC w' u l ∧ Below w.heap.size w w' := by
  obtain ⟨p, c, rfl⟩ := h.shape
  have HA := Lib.hid h
  obtain ⟨N, hN⟩ : ∃ N, l.length = N := ⟨_, rfl⟩
  have HN := Lib.hid hN
  rw [hN] at hl HA
  rw [hN]
  obtain ⟨i0, hi1, hi2, hi3, hi4⟩ := info_parts infoRun15
  have HI := Lib.hid (And.intro hi1 (And.intro hi2 (And.intro hi3 hi4)))
  clear h hN hi1 hi2 hi3 hi4
  go_enter Tryd.func8, Tryd.ntmps8
  go_wp2_with fail
  go_loopw [3, 4] (fun u i wr => ∃ k : Nat, i = .int .i64 (k : Int) ∧ k ≤ N ∧ wr.ownsRow w.heap.size 45 4 u (l.take k).length ((l.take k).flatMap rnC) ∧ Below w.heap.size w wr) (fun _ i _ => N - (intOf i).toNat)
  case atStart => exact ⟨0, rfl, Nat.zero_le _, World.ownsRow_nil _ _ _ _, Below.refl _ _⟩
  case round =>
    obtain ⟨k, rfl, hk, hrow, hb⟩ := hrel
    have HB := Lib.hid hb
    by_cases hlt : k < N
    · obtain ⟨x, hx⟩ : ∃ x, l[k]? = some x := ⟨_, List.getElem?_eq_getElem (by rw [HN.out]; exact hlt)⟩
      obtain ⟨b, o, hq, c0⟩ := (HA.out.below hb (Nat.le_refl _)).get hx
      subst hq
      have hlk : (l.take k).length = k := by rw [List.length_take, HN.out]; omega
      have HX := Lib.hid (show (l.take k).flatMap rnC ++ rnC x = (l.take (k + 1)).flatMap rnC by rw [List.take_add_one, hx]; simp)
      have HXL := Lib.hid (show (l.take (k + 1)).length = k + 1 by rw [List.length_take, HN.out]; omega)
      rw [hlk] at hrow
      obtain ⟨xt, xq, xs, xb⟩ := x
      have d0 := c0 k _ hx 0 _ rfl
      have d1 := c0 k _ hx 1 _ rfl
      have d2 := c0 k _ hx 2 _ rfl
      have d3 := c0 k _ hx 3 _ rfl
      rw [Nat.add_zero] at d0
      simp only at d0 d1 d2 d3
      have HO := Lib.hid (show ∀ o, (wr.alloc o).drew.ownsRow w.heap.size 45 4 u3 k ((l.take k).flatMap rnC) from fun o => hrow.alloc o)
      have HRW := Lib.hid hrow
      have HZ := Lib.hid (show k + 1 ≤ maxLen ∧ (k + 1) * 24 ≤ 140737488355328 from by unfold maxLen; omega)
      have HBS := Lib.hid (show ∀ o, w.heap.size ≤ (wr.alloc o).drew.heap.size from fun o => by show _ ≤ (wr.alloc o).heap.size; have := hb.size; simp; omega)
      have HSZ := Lib.hid (show ∀ o, (wr.alloc o).drew.heap.size = wr.heap.size + 1 from fun o => by show (wr.alloc o).heap.size = _; simp)
      have HNW := Lib.hid (run_news wr (.string xt) (.bool xq) (.bool xs) (.bool xb) 45)
      have H1C := Lib.hid (rn_one ⟨xt, xq, xs, xb⟩)
      have HLT := Lib.hid hlt
      have hltI : (k : Int) < (N : Int) := by omega
      have hk1 : (k : Int) + 1 ≤ 9223372036854775807 := by omega
      clear hrow hb hlt hk hx c0 hlk
      go_wp2_with fail
      go_region_law (refine step_append_lies _ (by rfl) (.tmp 11) (.tmp 33) 29 (by rfl) w.heap.size 45 i0 (.agg #[.string ByteArray.empty, .bool false, .bool false, .bool false]) 4 24 Tryd.underlying29 HI.out.1 HI.out.2.1 HI.out.2.2.1 HI.out.2.2.2 (by rfl) (by decide) u3 k ((l.take k).flatMap rnC) (by rfl) (HO.out _) ⟨wr.heap.size, 0, none⟩ 1 1 [.string xt, .bool xq, .bool xs, .bool xb] (by rfl) (by rfl) HNW.out H1C.out (by decide) HZ.out.1 HZ.out.2 (HBS.out _) (wr.heap.size + 1) (HSZ.out _) ?_; intro g cap w1 hown hgrow hat hglt; have HOW := Lib.hid hown; have HGR := Lib.hid hgrow; clear hown hgrow hat hglt)
      all_goals
        go_wp2_with fail
        go_roundw
        case rel => exact ⟨k + 1, by simp, HLT.out, by rw [HXL.out, ← HX.out]; exact HOW.out, HB.out.trans (sp_below HB.out.size HGR.out (fun k e => (World.ownsRow.lt HRW.out k e).1))⟩
        case measure => have := HLT.out; simp [intOf]; omega
    · have hltI : ¬ (k : Int) < (N : Int) := by omega
      have HE := Lib.hid (show wr.ownsRow w.heap.size 45 4 u3 l.length (l.flatMap rnC) by
        rwa [List.take_of_length_le (by rw [HN.out]; omega)] at hrow)
      clear hrow hb hlt hk
      go_wp2_with fail
      go_ret
      exact ⟨_, rfl, Rd.of_own rnE HE.out, HB.out⟩
end Go.Proofs.YtfepkhlifpbkfaaDoor
