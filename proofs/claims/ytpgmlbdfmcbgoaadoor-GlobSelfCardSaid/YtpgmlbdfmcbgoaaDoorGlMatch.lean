/-
  Proved: contract of match: the greedy match of pieces and letters. Conditions: pieces and letters lie in memory; at most 100000 each.
-/
import Derived.Test.YtpgmlbdfmcbgoaaDoorGlMany
import Derived.Deep.RegionHeld3
namespace Go.Proofs.YtpgmlbdfmcbgoaaDoor
open Go Go.RowKit GlyphMath GlMath

section
variable {l : List Pc} {s : List Int} {f fr at_ i : Nat} {star : Int}
theorem go_many (hi : i < s.length) (ha : at_ < l.length) (hm : (l.getD at_ default).many = true) : goM l s (f + 1) star fr at_ i = goM l s f at_ i (at_ + 1) i := by
  rw [goM, if_pos hi, if_pos ⟨ha, hm⟩]
theorem go_take (hi : i < s.length) (ha : at_ < l.length) (hm : (l.getD at_ default).many = false) (ht : takesM (l.getD at_ default) (s.getD i 0) = true) : goM l s (f + 1) star fr at_ i = goM l s f star fr (at_ + 1) (i + 1) := by
  rw [goM, if_pos hi, if_neg (by rw [hm]; simp), if_pos ⟨ha, ht⟩]
theorem go_back (hi : i < s.length) (ha : ¬ (at_ < l.length ∧ ((l.getD at_ default).many = true ∨ takesM (l.getD at_ default) (s.getD i 0) = true))) (h0 : 0 ≤ star) : goM l s (f + 1) star fr at_ i = goM l s f star (fr + 1) (star.toNat + 1) (fr + 1) := by
  rw [goM, if_pos hi, if_neg (fun h => ha ⟨h.1, .inl h.2⟩), if_neg (fun h => ha ⟨h.1, .inr h.2⟩), if_pos h0]
theorem go_none (hi : i < s.length) (ha : ¬ (at_ < l.length ∧ ((l.getD at_ default).many = true ∨ takesM (l.getD at_ default) (s.getD i 0) = true))) (h0 : ¬ 0 ≤ star) : goM l s (f + 1) star fr at_ i = false := by
  rw [goM, if_pos hi, if_neg (fun h => ha ⟨h.1, .inl h.2⟩), if_neg (fun h => ha ⟨h.1, .inr h.2⟩), if_neg h0]
theorem go_end (hi : ¬ i < s.length) : goM l s (f + 1) star fr at_ i = (l.drop at_).all (·.many) := by
  rw [goM, if_neg hi]
end
def RelM (R : List (Pc × Value)) (S : List Int) (B : Bool) (w : World) (v5 v6 v7 v8 : Value) (wr : World) : Prop :=
  ∃ (star : Int) (fr at_ i f : Nat), v5 = .int .i64 star ∧ v6 = .int .i64 (fr : Int) ∧ v7 = .int .i64 (at_ : Int) ∧ v8 = .int .i64 (i : Int) ∧ -1 ≤ star ∧ star < at_ ∧ at_ ≤ R.length ∧ fr ≤ i ∧ i ≤ S.length ∧ left R.length S.length star fr at_ < f ∧ goM (R.map (·.1)) S f star fr at_ i = B ∧ Below w.heap.size w wr
theorem below_drw {B : Nat} {w0 w : World} (h : Below B w0 w) : Below B w0 w.drew := ⟨h.os, h.tape, h.output, h.size, h.block⟩
theorem below_drwN {B : Nat} {w0 w : World} (h : Below B w0 w) (n : Nat) : Below B w0 (w.drewN n) := ⟨h.os, h.tape, h.output, h.size, h.block⟩

set_option maxHeartbeats 2000000 in
theorem match_any (R : List (Pc × Value)) (v : Value) (S : List Int) (g c : Nat) (w : World) (h : PcAt w v R) (hs : ∀ x ∈ R, ChAt w x.2 x.1.items) (hL : R.length ≤ 100000) (hn : S.length ≤ 100000)
    (hg : ∀ j x, S[j]? = some x → w.cell? ⟨g, j, none⟩ = some (.int .i32 x)) :
    Calls Tryd.prog 15 #[v, .slice (some ⟨g, 0, none⟩) S.length c] w fun e w' => e = .returned (.bool (matchM (R.map (·.1)) S)) ∧ Below w.heap.size w w' := by
  obtain ⟨p, pc, rfl, hlc, hcm, -⟩ := h.is
  obtain ⟨B, hB⟩ : ∃ B, matchM (R.map (·.1)) S = B := ⟨_, rfl⟩
  have HB0 := Lib.hid (show goM (R.map (·.1)) S (left R.length S.length (-1) 0 0 + 1) (-1) 0 0 0 = B by rw [← hB, matchM, List.length_map])
  rw [hB]
  obtain ⟨L, hLL⟩ : ∃ L, R.length = L := ⟨_, rfl⟩
  obtain ⟨n, hnn⟩ : ∃ n, S.length = n := ⟨_, rfl⟩
  rw [hLL] at h hL ⊢
  rw [hnn] at hn ⊢
  have HA := Lib.hid h
  have HS := Lib.hid hs
  have HG := Lib.hid hg
  have HLL := Lib.hid hLL
  have HNN := Lib.hid hnn
  have HLB := Lib.hid (And.intro hL hn)
  clear h hs hg hLL hnn hL hn hlc hcm hB
  go_enter Tryd.func15, Tryd.ntmps15
  go_wp2_with fail
  go_loopw [5, 6, 7, 8] (fun v5 v6 v7 v8 wr => RelM R S B w v5 v6 v7 v8 wr) (fun v5 v6 v7 _ _ => left L n (intOf v5) (intOf v6).toNat (intOf v7).toNat)
  case atStart => exact ⟨-1, 0, 0, 0, _, rfl, rfl, rfl, rfl, by omega, by omega, Nat.zero_le _, Nat.le_refl _, Nat.zero_le _, Nat.lt_succ_self _, HB0.out, Below.refl _ _⟩
  case round =>
    obtain ⟨star, fr, at_, i, f, rfl, rfl, rfl, rfl, hst, hsa, hat, hfr, hi, hf, hgo, hb⟩ := hrel
    cases f with
    | zero => omega
    | succ f =>
    rw [HLL.out] at hat hf
    rw [HNN.out] at hi hf
    have HB := Lib.hid hb
    have hLB := HLB.out
    by_cases hin : i < n
    · have hinI : (i : Int) < (n : Int) := by omega
      have hinS : i < S.length := by rw [HNN.out]; exact hin
      obtain ⟨r, hr⟩ : ∃ r, S[i]? = some r := ⟨_, List.getElem?_eq_getElem hinS⟩
      have hrD : S.getD i 0 = r := by rw [List.getD_eq_getElem?_getD, hr]; rfl
      have cg0 := HG.out i r hr
      have cg := (hb.cell (World.block_lt_of_cell? w _ cg0)).trans cg0
      by_cases ha : at_ < L
      · have haI : (at_ : Int) < (L : Int) := by omega
        have haL : at_ < (R.map (·.1)).length := by rw [List.length_map, HLL.out]; exact ha
        obtain ⟨x, hx⟩ : ∃ x, R[at_]? = some x := ⟨_, List.getElem?_eq_getElem (by rw [HLL.out]; exact ha)⟩
        have hxD : (R.map (·.1)).getD at_ default = x.1 := by rw [List.getD_eq_getElem?_getD, List.getElem?_map, hx]; rfl
        have hch := HS.out x (List.mem_of_getElem? hx)
        obtain ⟨b, o, hq, c0, c1, c2⟩ := (HA.out.below hb).get hx
        subst hq
        obtain ⟨⟨m, ng, it⟩, v2⟩ := x
        obtain ⟨q2, n2, c2', hv2⟩ : ∃ q n c, v2 = .slice q n c := by obtain ⟨p, c, hv, -⟩ := hch.is; exact ⟨p, _, c, hv⟩
        simp only at c0 c1 c2 hch
        subst hv2
        cases m with
        | true =>
          have HGO := Lib.hid (show goM (R.map (·.1)) S f at_ i (at_ + 1) i = B by rw [← hgo]; exact (go_many hinS haL (by rw [hxD])).symm)
          have HM := Lib.hid (left_star (n := n) (i := i) (fr := fr) hsa ha)
          have HX := Lib.hid (show at_ + 1 ≤ L ∧ i ≤ n ∧ left L n star fr at_ < f + 1 from ⟨ha, hi, hf⟩)
          have ha1 : (at_ : Int) + 1 ≤ 9223372036854775807 := by omega
          clear hgo hxD hrD hr cg cg0 hinS haL hch hx hat hfr hi hf hsa hst hb hin ha hLB
          go_wp2_with fail
          go_roundw
          case rel => exact ⟨(at_ : Int), i, at_ + 1, i, f, rfl, rfl, by simp, rfl, by omega, by omega, by rw [HLL.out]; exact HX.out.1, Nat.le_refl _, by rw [HNN.out]; exact HX.out.2.1, by rw [HLL.out, HNN.out]; have := HM.out; have := HX.out.2.2; omega, HGO.out, HB.out⟩
          case measure => have := HM.out; simpa [intOf] using this
        | false =>
          --F
          have HT0 := Lib.hid (fun (W : World) (hb : Below w.heap.size w W) => takes_any false ng it (.slice q2 n2 c2') r W (hch.below hb))
          obtain ⟨T, hT⟩ : ∃ T, takesM ⟨false, ng, it⟩ r = T := ⟨_, rfl⟩
          rw [hT] at HT0
          have hat1 : (at_ : Int) + 1 ≤ 9223372036854775807 := by omega
          have hi1 : (i : Int) + 1 ≤ 9223372036854775807 := by omega
          have hd : decide ((at_ : Int) < (L : Int)) = true := decide_eq_true haI
          have HS0 := Lib.hid (show wr.drew.cell? ⟨b, o + at_ * 3, none⟩ = some (.bool false) ∧ wr.drew.cell? ⟨b, o + at_ * 3 + 1, none⟩ = some (.bool ng) ∧ wr.drew.cell? ⟨b, o + at_ * 3 + 2, none⟩ = some (.slice q2 n2 c2') ∧ wr.drew.cell? ⟨g, i, none⟩ = some (.int .i32 r) from ⟨c0, c1, c2, cg⟩)
          have HCB := Lib.hid (fun (W : World) (hb : Below wr.heap.size wr W) => (show W.cell? ⟨b, o + at_ * 3, none⟩ = some (.bool false) ∧ W.cell? ⟨b, o + at_ * 3 + 1, none⟩ = some (.bool ng) ∧ W.cell? ⟨b, o + at_ * 3 + 2, none⟩ = some (.slice q2 n2 c2') ∧ W.cell? ⟨g, i, none⟩ = some (.int .i32 r) from ⟨(hb.cell (World.block_lt_of_cell? wr _ c0)).trans c0, (hb.cell (World.block_lt_of_cell? wr _ c1)).trans c1, (hb.cell (World.block_lt_of_cell? wr _ c2)).trans c2, (hb.cell (World.block_lt_of_cell? wr _ cg)).trans cg⟩))
          cases T with
          | true =>
            have HGO := Lib.hid (show goM (R.map (·.1)) S f star fr (at_ + 1) (i + 1) = B by rw [← hgo]; exact (go_take hinS haL (by rw [hxD]) (by rw [hxD, hrD]; exact hT)).symm)
            have HM := Lib.hid (left_take (n := n) (star := star) (fr := fr) ha)
            have HX := Lib.hid (show at_ + 1 ≤ L ∧ i + 1 ≤ n ∧ left L n star fr at_ < f + 1 ∧ -1 ≤ star ∧ star < at_ ∧ fr ≤ i from ⟨ha, hin, hf, hst, hsa, hfr⟩)
            clear hgo hxD hrD hr cg0 hinS haL hch hx hat hfr hi hf hsa hst hb hin ha hLB hT
            go_wp2_with fail
            go_region_held3 (fun V => V.cell? ⟨b, o + at_ * 3, none⟩ = some (.bool false) ∧ V.cell? ⟨b, o + at_ * 3 + 1, none⟩ = some (.bool ng) ∧ V.cell? ⟨b, o + at_ * 3 + 2, none⟩ = some (.slice q2 n2 c2') ∧ V.cell? ⟨g, i, none⟩ = some (.int .i32 r)) (first | assumption | exact HS0.out | exact HS6.out) ((go_at_call 24; (with_reducible refine (HT0.out _ (below_drw HB.out)).mono ?_); rintro e w6 ⟨rfl, hb6⟩; have HB6 := Lib.hid (show Below w.heap.size w w6 from (below_drw HB.out).trans (hb6.mono (below_drw HB.out).size)); have HS6 := Lib.hid (HCB.out w6 ((below_drw (Below.refl _ wr)).trans hb6)); clear hb6))
            all_goals
              go_wp2_with fail
              go_roundw
              case rel => exact ⟨star, fr, at_ + 1, i + 1, f, rfl, rfl, by simp, by simp, HX.out.2.2.2.1, by have := HX.out.2.2.2.2.1; omega, by rw [HLL.out]; exact HX.out.1, by have := HX.out.2.2.2.2.2; omega, by rw [HNN.out]; exact HX.out.2.1, by rw [HLL.out, HNN.out]; have := HM.out; have := HX.out.2.2.1; omega, HGO.out, HB6.out⟩
              case measure => have := HM.out; simpa [intOf] using this
          | false =>
            have hno : ¬ (at_ < (R.map fun x : Pc × Value => x.1).length ∧ (((R.map fun x : Pc × Value => x.1).getD at_ default).many = true ∨ takesM ((R.map fun x : Pc × Value => x.1).getD at_ default) (S.getD i 0) = true)) := by
              rw [hxD, hrD, hT]; simp
            by_cases h0 : 0 ≤ star
            · obtain ⟨sn, hsn⟩ : ∃ sn : Nat, star = (sn : Int) := ⟨star.toNat, by omega⟩
              subst hsn
              have HGO := Lib.hid (show goM (R.map (·.1)) S f (sn : Int) (fr + 1) (sn + 1) (fr + 1) = B by rw [← hgo]; exact (go_back hinS hno h0).symm)
              have HM := Lib.hid (left_back (L := L) (n := n) (at_ := at_) (fr := fr) (k := sn + 1) (star := (sn : Int)) (by omega))
              have HX := Lib.hid (show sn + 1 ≤ L ∧ fr + 1 ≤ n ∧ left L n (sn : Int) fr at_ < f + 1 from ⟨by omega, by omega, hf⟩)
              have hs1 : (sn : Int) + 1 ≤ 9223372036854775807 := by omega
              have hf1 : (fr : Int) + 1 ≤ 9223372036854775807 := by omega
              clear hgo hxD hrD hr cg0 hinS haL hch hx hat hfr hi hf hsa hst hb hin ha hLB hT hno
              go_wp2_with fail
              go_region_held3 (fun V => V.cell? ⟨b, o + at_ * 3, none⟩ = some (.bool false) ∧ V.cell? ⟨b, o + at_ * 3 + 1, none⟩ = some (.bool ng) ∧ V.cell? ⟨b, o + at_ * 3 + 2, none⟩ = some (.slice q2 n2 c2') ∧ V.cell? ⟨g, i, none⟩ = some (.int .i32 r)) (first | assumption | exact HS0.out | exact HS6.out) ((go_at_call 24; (with_reducible refine (HT0.out _ (below_drw HB.out)).mono ?_); rintro e w6 ⟨rfl, hb6⟩; have HB6 := Lib.hid (show Below w.heap.size w w6 from (below_drw HB.out).trans (hb6.mono (below_drw HB.out).size)); have HS6 := Lib.hid (HCB.out w6 ((below_drw (Below.refl _ wr)).trans hb6)); clear hb6))
              all_goals
                go_wp2_with fail
                go_roundw
                case rel => exact ⟨(sn : Int), fr + 1, sn + 1, fr + 1, f, rfl, by simp, by simp, by simp, by omega, by omega, by rw [HLL.out]; exact HX.out.1, Nat.le_refl _, by rw [HNN.out]; exact HX.out.2.1, by rw [HLL.out, HNN.out]; have := HM.out; have := HX.out.2.2; omega, HGO.out, HB6.out⟩
                case measure => have := HM.out; simpa [intOf] using this
            · have HGO := Lib.hid (show false = B by rw [← hgo]; exact (go_none hinS hno h0).symm)
              obtain rfl : star = -1 := by omega
              clear hgo hxD hrD hr cg0 hinS haL hch hx hat hfr hi hf hsa hst hb hin ha hLB hT hno h0
              go_wp2_with fail
              go_region_held3 (fun V => V.cell? ⟨b, o + at_ * 3, none⟩ = some (.bool false) ∧ V.cell? ⟨b, o + at_ * 3 + 1, none⟩ = some (.bool ng) ∧ V.cell? ⟨b, o + at_ * 3 + 2, none⟩ = some (.slice q2 n2 c2') ∧ V.cell? ⟨g, i, none⟩ = some (.int .i32 r)) (first | assumption | exact HS0.out | exact HS6.out) ((go_at_call 24; (with_reducible refine (HT0.out _ (below_drw HB.out)).mono ?_); rintro e w6 ⟨rfl, hb6⟩; have HB6 := Lib.hid (show Below w.heap.size w w6 from (below_drw HB.out).trans (hb6.mono (below_drw HB.out).size)); have HS6 := Lib.hid (HCB.out w6 ((below_drw (Below.refl _ wr)).trans hb6)); clear hb6))
              all_goals
                go_wp2_with fail
                go_ret
                exact ⟨by rw [← HGO.out]; rfl, HB6.out⟩
      · have haI : ¬ (at_ : Int) < (L : Int) := by omega
        have hd : decide (at_ < L) = false := decide_eq_false ha
        have hno : ¬ (at_ < (R.map fun x : Pc × Value => x.1).length ∧ (((R.map fun x : Pc × Value => x.1).getD at_ default).many = true ∨ takesM ((R.map fun x : Pc × Value => x.1).getD at_ default) (S.getD i 0) = true)) := by
          rw [List.length_map, HLL.out]; exact fun h => ha h.1
        by_cases h0 : 0 ≤ star
        · obtain ⟨sn, hsn⟩ : ∃ sn : Nat, star = (sn : Int) := ⟨star.toNat, by omega⟩
          subst hsn
          have HGO := Lib.hid (show goM (R.map (·.1)) S f (sn : Int) (fr + 1) (sn + 1) (fr + 1) = B by rw [← hgo]; exact (go_back hinS hno h0).symm)
          have HM := Lib.hid (left_back (L := L) (n := n) (at_ := at_) (fr := fr) (k := sn + 1) (star := (sn : Int)) (by omega))
          have HX := Lib.hid (show sn + 1 ≤ L ∧ fr + 1 ≤ n ∧ left L n (sn : Int) fr at_ < f + 1 from ⟨by omega, by omega, hf⟩)
          have hs1 : (sn : Int) + 1 ≤ 9223372036854775807 := by omega
          have hf1 : (fr : Int) + 1 ≤ 9223372036854775807 := by omega
          clear hgo hrD hr cg0 hinS hat hfr hi hf hsa hst hb hin hLB hno cg haI
          go_wp2_with fail
          go_quiet (fail)
          go_wp2_with fail
          go_roundw
          case rel => exact ⟨(sn : Int), fr + 1, sn + 1, fr + 1, f, rfl, by simp, by simp, by simp, by omega, by omega, by rw [HLL.out]; exact HX.out.1, Nat.le_refl _, by rw [HNN.out]; exact HX.out.2.1, by rw [HLL.out, HNN.out]; have := HM.out; have := HX.out.2.2; omega, HGO.out, below_drwN HB.out _⟩
          case measure => have := HM.out; simpa [intOf] using this
        · have HGO := Lib.hid (show false = B by rw [← hgo]; exact (go_none hinS hno h0).symm)
          obtain rfl : star = -1 := by omega
          clear hgo hrD hr cg0 hinS hat hfr hi hf hsa hst hb hin hLB hno cg haI
          go_wp2_with fail
          go_quiet (fail)
          go_wp2_with fail
          go_ret
          exact ⟨by rw [← HGO.out]; rfl, below_drwN HB.out _⟩
    · have hinI : ¬ (i : Int) < (n : Int) := by omega
      have HGO := Lib.hid (show ((R.drop at_).map (·.1)).all (·.many) = B by rw [← hgo, go_end (by rw [HNN.out]; exact hin), List.map_drop])
      obtain ⟨q5, hq5⟩ := sliced_is p at_ L pc 3
      have hsl5 : ∀ W, (Instr.slice 37 (.slice p L pc) (some (.int .i64 (at_ : Int))) none none).run Tryd.prog W = .ok (.slice q5 (L - at_) (pc - at_)) W := fun W => by
        rw [run_fromP (k := at_) p pc _ rfl hat W, hq5]
      have hAd : PcAt w (.slice q5 (L - at_) (pc - at_)) (R.drop at_) := by
        have h1 := HA.out
        rw [← HLL.out] at h1 hq5 ⊢
        have := h1.drop at_ (by rw [HLL.out]; exact hat)
        rwa [hq5] at this
      have HC := Lib.hid (contains_any (R.drop at_) _ wr (hAd.below hb) (fun x hx => by
        obtain ⟨p, c, hv, -⟩ := (HS.out x (List.mem_of_mem_drop hx)).is
        exact ⟨p, _, c, hv⟩))
      rw [HGO.out] at HC
      clear hgo hat hfr hi hf hsa hst hb hin hLB hq5 hAd
      go_wp2_with (go_at_call 25; (with_reducible refine HC.out.mono ?_); rintro e w1 ⟨rfl, hb1⟩; have HB1 := Lib.hid (HB.out.trans (hb1.mono HB.out.size)); clear hb1)
      go_ret
      exact ⟨by simp, HB1.out⟩
end Go.Proofs.YtpgmlbdfmcbgoaaDoor
