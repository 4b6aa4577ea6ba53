/-
  Proved: contract of the statements' own Fields. Conditions: the library's tables lie as they should; at most 1000 runs, each of at most 1000 bytes.
-/
import Derived.Test.YtfepkhlifpbkfaaDoorSpRMem
import Derived.Test.YtfepkhlifpbkfaaDoorSpFields
import Derived.Test.YtfepkhlifpbkfaaDoorSpRChars
import Derived.Test.YtfepkhlifpbkfaaDoorGlyphRBlank
namespace Go.Proofs.YtfepkhlifpbkfaaDoor
open Go Go.RowKit GlyphMath GlMath SpMath

theorem grown_drewR {w w' : World} {row : Option Nat} (h : w.grownBy w' row) : w.drew.grownBy w' row := ⟨h.os, h.tape, h.output, h.size, h.block⟩
abbrev RnBlk15 (w : World) (k : Nat) (t : ByteArray) (q s b : Bool) : Prop := w.heap[k]? = some (.cells #[.string t, .bool q, .bool s, .bool b] 45 (0, 0))
theorem rn_cell15 {w : World} {k : Nat} {t : ByteArray} {q s b : Bool} (h : RnBlk15 w k t q s b) : w.cell? ⟨k, 0, none⟩ = some (.string t) ∧ w.cell? ⟨k, 1, none⟩ = some (.bool q) ∧ w.cell? ⟨k, 2, none⟩ = some (.bool s) ∧ w.cell? ⟨k, 3, none⟩ = some (.bool b) :=
  ⟨by rw [Lib.cell_of_heap h]; rfl, by rw [Lib.cell_of_heap h]; rfl, by rw [Lib.cell_of_heap h]; rfl, by rw [Lib.cell_of_heap h]; rfl⟩
theorem row_news (w : World) (a : Value) (t : TypeId) : ∀ j u, ([a] : List Value)[j]? = some u → (w.alloc (.cells #[a] t)).cell? ((⟨w.heap.size, 0, none⟩ : Addr).add j) = some u := fun j u hu => World.news_of_block (heap_alloc_new w _) j u (by simpa using hu)
theorem row_one (p : Option Addr) (n c : Nat) : ∀ u ∈ ([.slice p n c] : List Value), u.oneCell' = true := fun u hu => by rw [List.mem_singleton.1 hu]; rfl
theorem grown_old {w w1 : World} {o : Obj} {row : Option Nat} (hg : (w.alloc o).grownBy w1 row) : ∀ k, k < w.heap.size → row ≠ some k → w1.heap[k]? = w.heap[k]? := fun k hk hn => (hg.block k (by simp; omega) (fun e => hn e.symm)).trans (Below.heap_alloc _ _ _ hk)
/-- Between runs. -/
def RelO (l : List Rn) (N : Nat) (w : World) (out now bg iv : Value) (wr : World) : Prop :=
  ∃ (k : Nat) (vs : List Sl), iv = .int .i64 (k : Int) ∧ k ≤ N ∧ bg = .bool (fieldsF (l.take k)).begun ∧ StR wr w.heap.size out now vs (fieldsF (l.take k)) ∧ WfF (fieldsF (l.take k)) ∧ Below w.heap.size w wr
/-- Between letters. -/
def RelL (L : List Nat) (M BX : Nat) (t : ByteArray) (q s : Bool) (vc : Value) (G : Fld) (w : World) (out now bg jv : Value) (wr : World) : Prop :=
  ∃ (j : Nat) (F : Fld) (vs : List Sl), jv = .int .i64 (j : Int) ∧ j ≤ M ∧ bg = .bool F.begun ∧ StR wr w.heap.size out now vs F ∧ WfF F ∧ Below w.heap.size w wr ∧ RnBlk15 wr BX t q s false ∧ RowOf wr w.heap.size vc (chM q L) ∧ (∀ g, vc.ownBlock = some g → now.ownBlock ≠ some g) ∧ F.puts q s (L.drop j) = G ∧ F.sz + (M - j) ≤ 10000000
theorem StR.lens {w : World} {B : Nat} {ve vl : Value} {vs : List Sl} {f : Fld} (h : StR w B ve vl vs f) (hz : f.sz ≤ 10000000) : vs.length ≤ 10000000 ∧ f.last.length ≤ 10000000 := by
  have h1 := h.fs.len
  unfold Fld.sz at hz
  omega
set_option maxRecDepth 8000 in
set_option maxHeartbeats 8000000 in
theorem rfields_any (l : List Rn) (v : Value) (w : World) (h : Rd 4 rnC w v l) (hl : l.length ≤ 1000) (hs : ∀ x ∈ l, x.text.size ≤ 1000) (hT : Tabs w) :
    Calls Tryd.prog 7 #[v] w fun e w' => ∃ u, e = .returned u ∧ Rds w' u (fieldsM l) ∧ Below w.heap.size w w' := by
  obtain ⟨p, c, rfl⟩ := h.shape
  have HA := Lib.hid h
  obtain ⟨N, hN⟩ : ∃ N, l.length = N := ⟨_, rfl⟩
  have HN := Lib.hid hN
  have HS := Lib.hid hs
  have HT := Lib.hid hT
  rw [hN] at hl HA
  rw [hN]
  obtain ⟨i0, hi1, hi2, hi3, hi4⟩ := info_parts infoCh
  obtain ⟨i1, hj1, hj2, hj3, hj4⟩ := info_parts infoRow
  have HI := Lib.hid (And.intro hi1 (And.intro hi2 (And.intro hi3 hi4)))
  have HI1 := Lib.hid (And.intro hj1 (And.intro hj2 (And.intro hj3 hj4)))
  clear h hN hs hT hi1 hi2 hi3 hi4 hj1 hj2 hj3 hj4
  go_enter Tryd.func7, Tryd.ntmps7
  go_wp2_with fail
  go_loopw [3, 4, 5, 6] (fun out now bg iv wr => RelO l N w out now bg iv wr) (fun _ _ _ iv _ => N - (intOf iv).toNat)
  case atStart => exact ⟨0, [], rfl, Nat.zero_le _, rfl, ⟨⟨World.ownsRow_nil _ _ _ _, rfl, fun k u l hu _ => by cases hu⟩, World.ownsRow_nil _ _ _ _, fun k u hu => by cases hu⟩, fun _ => rfl, Below.refl _ _⟩
  case round =>
    obtain ⟨k, vs, rfl, hk, rfl, hst, hwf, hb⟩ := hrel
    have HB := Lib.hid hb
    have hsz := fieldsF_sz l k HS.out
    have hkz : k * 1001 ≤ 1001000 := by have : k * 1001 ≤ 1000 * 1001 := Nat.mul_le_mul_right _ (by omega); omega
    by_cases hlt : k < N
    · obtain ⟨x, hx⟩ : ∃ x, l[k]? = some x := ⟨_, List.getElem?_eq_getElem (by rw [HN.out]; exact hlt)⟩
      obtain ⟨b, o, hq, c0⟩ := (HA.out.below hb (Nat.le_refl _)).get hx
      subst hq
      have hxs := HS.out x (List.mem_of_getElem? hx)
      have hft := fieldsF_take l k x hx
      obtain ⟨F, hF⟩ : ∃ F, fieldsF (l.take k) = F := ⟨_, rfl⟩
      rw [hF] at hst hwf hsz hft ⊢
      obtain ⟨xt, xq, xs, xb⟩ := x
      have d0 := c0 k _ hx 0 _ rfl
      have d1 := c0 k _ hx 1 _ rfl
      have d2 := c0 k _ hx 2 _ rfl
      have d3 := c0 k _ hx 3 _ rfl
      rw [Nat.add_zero] at d0
      simp only at d0 d1 d2 d3 hxs
      have HLT := Lib.hid hlt
      have hltI : (k : Int) < (N : Int) := by omega
      have hk1 : (k : Int) + 1 ≤ 9223372036854775807 := by omega
      obtain ⟨pn, pc, hpn⟩ := own_shape hst.row
      obtain ⟨LN, hLN⟩ : ∃ n, F.last.length = n := ⟨_, rfl⟩
      rw [hLN] at hpn
      subst hpn
      have HLN := Lib.hid hLN
      have hlens := hst.lens (by omega)
      obtain ⟨M0, hM0⟩ : ∃ n, vs.length = n := ⟨_, rfl⟩
      have HM0 := Lib.hid hM0
      rw [hM0] at hlens
      have HZ := Lib.hid (show M0 + 1 ≤ maxLen ∧ (M0 + 1) * 24 ≤ 140737488355328 from by unfold maxLen; omega)
      have HFT := Lib.hid hft
      have HST := Lib.hid hst
      have HWF := Lib.hid hwf
      obtain ⟨W0, hW0⟩ : ∃ W0, wr.alloc (.cells #[.string xt, .bool xq, .bool xs, .bool xb] 45) = W0 := ⟨_, rfl⟩
      have HW0 := Lib.hid hW0
      have hbx : RnBlk15 W0 wr.heap.size xt xq xs xb := by rw [← hW0]; exact heap_alloc_new wr _
      have hs0 : StR W0 w.heap.size u3 (.slice pn LN pc) vs F := by rw [← hW0]; exact hst.kept (alloc_cells _)
      have hb0 : Below w.heap.size w W0 := by rw [← hW0]; exact hb.alloc hb.size _
      have hz0 : wr.heap.size + 1 = W0.heap.size := by rw [← hW0]; simp
      have HH := Lib.hid (And.intro hs0 (And.intro hb0 (And.intro hbx (And.intro hz0 (And.intro hsz hxs)))))
      clear hst hwf hb hsz hkz hlt hx c0 hxs hft hF hlens hM0 hW0 hbx hs0 hb0 hz0 hk hLN
      cases xb
      · obtain ⟨L, hL⟩ : ∃ L, letters xt = L := ⟨_, rfl⟩
        obtain ⟨M, hM⟩ : ∃ M, L.length = M := ⟨_, rfl⟩
        have HLM := Lib.hid hM
        have HLM2 := Lib.hid (show M ≤ 1000 ∧ F.sz ≤ 1001000 from by have h1 := letters_length xt; have h2 := HH.out.2.2.2.2.1; have h3 := HH.out.2.2.2.2.2; rw [hL, hM] at h1; have : k * 1001 ≤ 1000 * 1001 := Nat.mul_le_mul_right _ (by have := HLT.out; omega); omega)
        have HC := Lib.hid (rchars_any xt xq W0 (by have := HH.out.2.2.2.2.2; omega) (HT.out.below HH.out.2.1))
        rw [hL] at HC
        obtain ⟨G, hG⟩ : ∃ G, fieldsF (l.take (k + 1)) = G := ⟨_, rfl⟩
        have HFN := Lib.hid hG
        have HGG := Lib.hid (show G = (F.opens xq).puts xq xs L from by rw [← hG, HFT.out, ← hL]; rfl)
        have HK1 := Lib.hid hk1
        obtain ⟨BX, hBX⟩ : ∃ n, wr.heap.size = n := ⟨_, rfl⟩
        have HBX := Lib.hid hBX
        clear hL hM hG
        cases xq
        · go_wp2_with (go_at_call 14; rw [HW0.out]; refine HC.out.mono ?_; rintro e w2 ⟨v2, rfl, hr2, hb2⟩; obtain ⟨p2, c2, hv2⟩ := own_shape hr2; rw [chM_len, HLM.out] at hv2; subst hv2; have H2 := Lib.hid (And.intro hr2 hb2); clear hr2 hb2)
          go_loopw [3, 4, 5, 9] (fun out now bg jv wz => RelL L M BX xt false xs (.slice p2 M c2) G w out now bg jv wz) (fun _ _ _ jv _ => M - (intOf jv).toNat)
          case atStart =>
            obtain ⟨hs0, hb0, hbx, hz0, hsz, hxs⟩ := HH.out
            rw [HBX.out] at hbx
            have hbw : Below W0.heap.size W0 w2 := H2.out.2
            refine ⟨0, F.opens false, vs, rfl, Nat.zero_le _, by simp [Fld.opens], (hs0.kept (below_cells hbw)).opens false, HWF.out.opens false, hb0.trans (hbw.mono hb0.size), below_cells hbw _ _ _ _ hbx, H2.out.1.low hb0.size, fun g hg e => ?_, HGG.out.symm, ?_⟩
            · have h1 := (World.ownsRow.lt H2.out.1 g hg).1
              have h2 := (World.ownsRow.lt hs0.row g e).2
              omega
            · have h1 : (F.opens false).sz = F.sz := rfl
              have h2 := HLM2.out
              omega
          case round =>
            obtain ⟨j, F2, vs2, rfl, hj, rfl, hst, hwf, hb, hbx, hcr, hap, hG, hz⟩ := hrel
            by_cases hjl : j < M
            · obtain ⟨r, hr⟩ : ∃ r, L[j]? = some r := ⟨_, List.getElem?_eq_getElem (by rw [HLM.out]; exact hjl)⟩
              have hch : (chM false L)[j]? = some ((r : Int), false) := by unfold chM; rw [List.getElem?_map, hr]; rfl
              obtain ⟨gc, oc, hpc, hcc⟩ := (Rd.of_own cE hcr).get hch
              subst hpc
              have y0 := hcc j _ hch 0 _ rfl
              have y1 := hcc j _ hch 1 _ rfl
              rw [Nat.add_zero] at y0
              simp only at y0 y1
              obtain ⟨x0, x1, x2, x3⟩ := rn_cell15 hbx
              obtain ⟨pn, pc, hpn⟩ := own_shape hst.row
              obtain ⟨LN, hLN⟩ : ∃ n, F2.last.length = n := ⟨_, rfl⟩
              rw [hLN] at hpn
              subst hpn
              have HLN := Lib.hid hLN
              have hlens := hst.lens (by omega)
              rw [hLN] at hlens
              obtain ⟨M2, hM2⟩ : ∃ n, vs2.length = n := ⟨_, rfl⟩
              have HM2 := Lib.hid hM2
              rw [hM2] at hlens
              have hjI : (j : Int) < (M : Int) := by omega
              have hj1 : (j : Int) + 1 ≤ 9223372036854775807 := by have := HLM2.out; omega
              have HLT2 := Lib.hid hjl
              have HGD := Lib.hid (show (F2.put false xs r).puts false xs (L.drop (j + 1)) = G from by
                rw [← hG, ← puts_cons]
                congr 1
                rw [List.drop_eq_getElem_cons (show j < L.length by rw [HLM.out]; exact hjl)]
                congr 1
                have h1 := List.getElem?_eq_getElem (show j < L.length by rw [HLM.out]; exact hjl)
                rw [hr] at h1
                exact Option.some.inj h1)
              have HBK := Lib.hid (fun W => rblank_any (r : Int) W)
              obtain ⟨BK, hBK⟩ : ∃ BK, blankR (r : Int) = BK := ⟨_, rfl⟩
              rw [hBK] at HBK
              have HBKE := Lib.hid hBK
              have HR := Lib.hid (And.intro hst (And.intro hwf (And.intro hb (And.intro hbx (And.intro hcr (And.intro hap (And.intro hG hz)))))))
              have HO := Lib.hid (show ∀ o, (wr.alloc o).ownsRow w.heap.size 48 2 (.slice pn LN pc) LN (F2.last.flatMap cC) from fun o => by have := hst.row.alloc o; rwa [hLN] at this)
              have HZ := Lib.hid (show LN + 1 ≤ maxLen ∧ (LN + 1) * 8 ≤ 140737488355328 from by unfold maxLen; omega)
              have HBS := Lib.hid (show ∀ o, w.heap.size ≤ (wr.alloc o).heap.size from fun o => by have := hb.size; simp; omega)
              have HSZ := Lib.hid (show ∀ o, (wr.alloc o).heap.size = wr.heap.size + 1 from fun o => by simp)
              have HNW := Lib.hid (rchar_news wr (.int .i32 (r : Int)) (.bool false))
              have H1C := Lib.hid (rchar_one (r : Int) false)
              have HO2 := Lib.hid (show ∀ o, (wr.alloc o).ownsRow w.heap.size 32 1 u3 M2 (vs2.flatMap slC) from fun o => by have := hst.fs.row.alloc o; rwa [hM2] at this)
              have HZ2 := Lib.hid (show M2 + 1 ≤ maxLen ∧ (M2 + 1) * 24 ≤ 140737488355328 from by unfold maxLen; omega)
              have HBS2 := HBS
              have HNW2 := Lib.hid (row_news wr (.slice pn LN pc) 32)
              have H1C2 := Lib.hid (row_one pn LN pc)
              clear hst hwf hb hbx hcr hap hG hz hr hch hcc hLN hlens hM2 hjl hj hBK
              cases xs
              · clear HO2 HZ2 HBS2 HNW2 H1C2
                have HP := Lib.hid (show F2.put false false r = ⟨F2.ended, F2.last ++ [((r : Int), false)], true⟩ from by unfold Fld.put; rw [HBKE.out]; rfl)
                go_wp2_with (first
                  | (go_at_call 18; (with_reducible refine (HBK.out _).mono ?_); rintro e w3 ⟨rfl, rfl⟩)
                  | (at_builtin; refine wpList_append_lies _ (by rfl) (.tmp 60) (.tmp 65) 32 (by rfl) w.heap.size 48 i0 (.agg #[.int .i32 0, .bool false]) 2 8 Tryd.underlying32 HI.out.1 HI.out.2.1 HI.out.2.2.1 HI.out.2.2.2 (by rfl) (by decide) (.slice pn LN pc) LN (F2.last.flatMap cC) (by rfl) (HO.out _) ⟨wr.heap.size, 0, none⟩ 1 1 [.int .i32 (r : Int), .bool false] (by rfl) (by rfl) HNW.out H1C.out (by decide) HZ.out.1 HZ.out.2 (HBS.out _) (wr.heap.size + 1) (HSZ.out _) ?_; intro g cap w7 hown hgrow hat hglt; have HOW := Lib.hid hown; have HGR := Lib.hid hgrow; have HAT := Lib.hid hat; clear hown hgrow hat hglt))
                obtain ⟨hst, hwf, hb, hbx, hcr, hap, hG, hz⟩ := HR.out
                have hk : ∀ j, j < wr.heap.size → (Value.slice pn LN pc).ownBlock ≠ some j → w7.heap[j]? = wr.heap[j]? := grown_old HGR.out
                have hS := StR.put (x := ((r : Int), false)) HLN.out hst HOW.out hk (HAT.out.imp id fun e => by omega)
                go_roundw
                case rel =>
                  refine ⟨j + 1, F2.put false false r, vs2, by simp, HLT2.out, by rw [HP.out], by rw [HP.out]; exact hS, hwf.put false false _ r, hb.trans (sp_below hb.size (grown_drewR HGR.out) (fun j e => (World.ownsRow.lt hst.row j e).1)), (hk _ (Array.getElem?_eq_some_iff.1 hbx).1 (fun e => blk_ne ((own_type hst.row e).choose_spec) hbx (by decide) rfl)).trans hbx, own_same hcr (fun g hg => hk g (World.ownsRow.lt hcr g hg).2 (hap g hg)), fun g' hg' e => ?_, HGD.out, ?_⟩
                  · have e : g = g' := by simpa [Value.ownBlock] using e
                    subst e
                    rcases HAT.out with h1 | h1
                    · exact hap g hg' h1
                    · have := (World.ownsRow.lt hcr g hg').2; omega
                  · have h1 := put_sz false false F2 r
                    have h2 := HLT2.out
                    omega
                case measure => have := HLT2.out; simp [intOf]; omega
              · cases BK
                · clear HO2 HZ2 HBS2 HNW2 H1C2
                  have HP := Lib.hid (show F2.put false true r = ⟨F2.ended, F2.last ++ [((r : Int), false)], true⟩ from by unfold Fld.put; rw [HBKE.out]; rfl)
                  go_wp2_with (first
                    | (go_at_call 18; (with_reducible refine (HBK.out _).mono ?_); rintro e w3 ⟨rfl, rfl⟩)
                    | (at_builtin; refine wpList_append_lies _ (by rfl) (.tmp 60) (.tmp 65) 32 (by rfl) w.heap.size 48 i0 (.agg #[.int .i32 0, .bool false]) 2 8 Tryd.underlying32 HI.out.1 HI.out.2.1 HI.out.2.2.1 HI.out.2.2.2 (by rfl) (by decide) (.slice pn LN pc) LN (F2.last.flatMap cC) (by rfl) (HO.out _) ⟨wr.heap.size, 0, none⟩ 1 1 [.int .i32 (r : Int), .bool false] (by rfl) (by rfl) HNW.out H1C.out (by decide) HZ.out.1 HZ.out.2 (HBS.out _) (wr.heap.size + 1) (HSZ.out _) ?_; intro g cap w7 hown hgrow hat hglt; have HOW := Lib.hid hown; have HGR := Lib.hid hgrow; have HAT := Lib.hid hat; clear hown hgrow hat hglt))
                  obtain ⟨hst, hwf, hb, hbx, hcr, hap, hG, hz⟩ := HR.out
                  have hk : ∀ j, j < wr.heap.size → (Value.slice pn LN pc).ownBlock ≠ some j → w7.heap[j]? = wr.heap[j]? := grown_old HGR.out
                  have hS := StR.put (x := ((r : Int), false)) HLN.out hst HOW.out hk (HAT.out.imp id fun e => by omega)
                  go_roundw
                  case rel =>
                    refine ⟨j + 1, F2.put false true r, vs2, by simp, HLT2.out, by rw [HP.out], by rw [HP.out]; exact hS, hwf.put false true _ r, hb.trans (sp_below hb.size (grown_drewR HGR.out) (fun j e => (World.ownsRow.lt hst.row j e).1)), (hk _ (Array.getElem?_eq_some_iff.1 hbx).1 (fun e => blk_ne ((own_type hst.row e).choose_spec) hbx (by decide) rfl)).trans hbx, own_same hcr (fun g hg => hk g (World.ownsRow.lt hcr g hg).2 (hap g hg)), fun g' hg' e => ?_, HGD.out, ?_⟩
                    · have e : g = g' := by simpa [Value.ownBlock] using e
                      subst e
                      rcases HAT.out with h1 | h1
                      · exact hap g hg' h1
                      · have := (World.ownsRow.lt hcr g hg').2; omega
                    · have h1 := put_sz false true F2 r
                      have h2 := HLT2.out
                      omega
                  case measure => have := HLT2.out; simp [intOf]; omega
                · have HP := Lib.hid (show F2.put false true r = F2.fin from by unfold Fld.put; rw [HBKE.out]; rfl)
                  clear HO HBS HSZ HNW H1C HZ
                  obtain ⟨BG, hBG⟩ : ∃ b, F2.begun = b := ⟨_, rfl⟩
                  have HBG := Lib.hid hBG
                  rw [hBG]
                  clear hBG
                  cases BG
                  · go_wp2_with (go_at_call 18; (with_reducible refine (HBK.out _).mono ?_); rintro e w3 ⟨rfl, rfl⟩)
                    obtain ⟨hst, hwf, hb, hbx, hcr, hap, hG, hz⟩ := HR.out
                    go_roundw
                    case rel =>
                      refine ⟨j + 1, F2.put false true r, vs2, by simp, HLT2.out, by rw [HP.out, hwf.fin_eq HBG.out], by rw [HP.out]; exact hst.noneF hwf HBG.out, hwf.put false true _ r, hb, hbx, hcr, (fun g _ e => by cases e), HGD.out, ?_⟩
                      have h1 := put_sz false true F2 r
                      have h2 := HLT2.out
                      omega
                    case measure => have := HLT2.out; simp [intOf]; omega
                  · go_wp2_with (first
                      | (go_at_call 18; (with_reducible refine (HBK.out _).mono ?_); rintro e w3 ⟨rfl, rfl⟩)
                      | (at_builtin; refine wpList_append_own _ rfl _ _ 26 rfl w.heap.size 32 i1 (.slice none 0 0) 1 24 Tryd.underlying26 HI1.out.1 HI1.out.2.1 HI1.out.2.2.1 HI1.out.2.2.2 rfl (by decide) u3 M2 (vs2.flatMap slC) rfl (HO2.out _) ⟨wr.heap.size, 0, none⟩ 1 1 [.slice pn LN pc] (by rfl) (by rfl) HNW2.out H1C2.out HZ2.out.1 HZ2.out.2 (HBS2.out _) ?_; intro v7 w7 hown hg hn; clear hn; have HO7 := Lib.hid hown; have HG7 := Lib.hid hg; clear hown hg))
                    obtain ⟨hst, hwf, hb, hbx, hcr, hap, hG, hz⟩ := HR.out
                    have hk : ∀ j, j < wr.heap.size → u3.ownBlock ≠ some j → w7.heap[j]? = wr.heap[j]? := grown_old HG7.out
                    have hS := StR.fin hst HBG.out (by rw [HM2.out]; exact HO7.out) hk
                    go_roundw
                    case rel =>
                      refine ⟨j + 1, F2.put false true r, _, by simp, HLT2.out, (by rw [HP.out]; unfold Fld.fin; rw [if_pos HBG.out]), (by rw [HP.out]; exact hS), hwf.put false true _ r, hb.trans (sp_below hb.size (grown_drewR HG7.out) (fun j e => (World.ownsRow.lt hst.fs.row j e).1)), (hk _ (Array.getElem?_eq_some_iff.1 hbx).1 (fun e => blk_ne ((own_type hst.fs.row e).choose_spec) hbx (by decide) rfl)).trans hbx, own_same hcr (fun g hg => hk g (World.ownsRow.lt hcr g hg).2 (own_ap hcr hst.fs.row (by decide) hg)), (fun g _ e => by cases e), HGD.out, ?_⟩
                      have h1 := put_sz false true F2 r
                      have h2 := HLT2.out
                      omega
                    case measure => have := HLT2.out; simp [intOf]; omega
            · have hjI : ¬ (j : Int) < (M : Int) := by omega
              have hd : L.drop j = [] := List.drop_eq_nil_of_le (by rw [HLM.out]; omega)
              rw [hd] at hG
              have hF2 : F2 = G := hG
              subst hF2
              have HR := Lib.hid (And.intro hst (And.intro hwf hb))
              clear hst hwf hb hbx hcr hap hG hz hd hj hjl
              have hk1 := HK1.out
              go_wp2_with fail
              go_roundw
              case rel => exact ⟨k + 1, vs2, by simp, HLT.out, by rw [HFN.out], by rw [HFN.out]; exact HR.out.1, by rw [HFN.out]; exact HR.out.2.1, HR.out.2.2⟩
              case measure => have := HLT.out; simp [intOf]; omega
        · go_wp2_with (go_at_call 14; rw [HW0.out]; refine HC.out.mono ?_; rintro e w2 ⟨v2, rfl, hr2, hb2⟩; obtain ⟨p2, c2, hv2⟩ := own_shape hr2; rw [chM_len, HLM.out] at hv2; subst hv2; have H2 := Lib.hid (And.intro hr2 hb2); clear hr2 hb2)
          go_loopw [3, 4, 5, 9] (fun out now bg jv wz => RelL L M BX xt true xs (.slice p2 M c2) G w out now bg jv wz) (fun _ _ _ jv _ => M - (intOf jv).toNat)
          case atStart =>
            obtain ⟨hs0, hb0, hbx, hz0, hsz, hxs⟩ := HH.out
            rw [HBX.out] at hbx
            have hbw : Below W0.heap.size W0 w2 := H2.out.2
            refine ⟨0, F.opens true, vs, rfl, Nat.zero_le _, by simp [Fld.opens], (hs0.kept (below_cells hbw)).opens true, HWF.out.opens true, hb0.trans (hbw.mono hb0.size), below_cells hbw _ _ _ _ hbx, H2.out.1.low hb0.size, fun g hg e => ?_, HGG.out.symm, ?_⟩
            · have h1 := (World.ownsRow.lt H2.out.1 g hg).1
              have h2 := (World.ownsRow.lt hs0.row g e).2
              omega
            · have h1 : (F.opens true).sz = F.sz := rfl
              have h2 := HLM2.out
              omega
          case round =>
            obtain ⟨j, F2, vs2, rfl, hj, rfl, hst, hwf, hb, hbx, hcr, hap, hG, hz⟩ := hrel
            by_cases hjl : j < M
            · obtain ⟨r, hr⟩ : ∃ r, L[j]? = some r := ⟨_, List.getElem?_eq_getElem (by rw [HLM.out]; exact hjl)⟩
              have hch : (chM true L)[j]? = some ((r : Int), true) := by unfold chM; rw [List.getElem?_map, hr]; rfl
              obtain ⟨gc, oc, hpc, hcc⟩ := (Rd.of_own cE hcr).get hch
              subst hpc
              have y0 := hcc j _ hch 0 _ rfl
              have y1 := hcc j _ hch 1 _ rfl
              rw [Nat.add_zero] at y0
              simp only at y0 y1
              obtain ⟨x0, x1, x2, x3⟩ := rn_cell15 hbx
              obtain ⟨pn, pc, hpn⟩ := own_shape hst.row
              obtain ⟨LN, hLN⟩ : ∃ n, F2.last.length = n := ⟨_, rfl⟩
              rw [hLN] at hpn
              subst hpn
              have HLN := Lib.hid hLN
              have hlens := hst.lens (by omega)
              rw [hLN] at hlens
              obtain ⟨M2, hM2⟩ : ∃ n, vs2.length = n := ⟨_, rfl⟩
              have HM2 := Lib.hid hM2
              rw [hM2] at hlens
              have hjI : (j : Int) < (M : Int) := by omega
              have hj1 : (j : Int) + 1 ≤ 9223372036854775807 := by have := HLM2.out; omega
              have HLT2 := Lib.hid hjl
              have HGD := Lib.hid (show (F2.put true xs r).puts true xs (L.drop (j + 1)) = G from by
                rw [← hG, ← puts_cons]
                congr 1
                rw [List.drop_eq_getElem_cons (show j < L.length by rw [HLM.out]; exact hjl)]
                congr 1
                have h1 := List.getElem?_eq_getElem (show j < L.length by rw [HLM.out]; exact hjl)
                rw [hr] at h1
                exact Option.some.inj h1)
              have HBK := Lib.hid (fun W => rblank_any (r : Int) W)
              obtain ⟨BK, hBK⟩ : ∃ BK, blankR (r : Int) = BK := ⟨_, rfl⟩
              rw [hBK] at HBK
              have HBKE := Lib.hid hBK
              have HR := Lib.hid (And.intro hst (And.intro hwf (And.intro hb (And.intro hbx (And.intro hcr (And.intro hap (And.intro hG hz)))))))
              have HO := Lib.hid (show ∀ o, (wr.alloc o).ownsRow w.heap.size 48 2 (.slice pn LN pc) LN (F2.last.flatMap cC) from fun o => by have := hst.row.alloc o; rwa [hLN] at this)
              have HZ := Lib.hid (show LN + 1 ≤ maxLen ∧ (LN + 1) * 8 ≤ 140737488355328 from by unfold maxLen; omega)
              have HBS := Lib.hid (show ∀ o, w.heap.size ≤ (wr.alloc o).heap.size from fun o => by have := hb.size; simp; omega)
              have HSZ := Lib.hid (show ∀ o, (wr.alloc o).heap.size = wr.heap.size + 1 from fun o => by simp)
              have HNW := Lib.hid (rchar_news wr (.int .i32 (r : Int)) (.bool true))
              have H1C := Lib.hid (rchar_one (r : Int) true)
              have HO2 := Lib.hid (show ∀ o, (wr.alloc o).ownsRow w.heap.size 32 1 u3 M2 (vs2.flatMap slC) from fun o => by have := hst.fs.row.alloc o; rwa [hM2] at this)
              have HZ2 := Lib.hid (show M2 + 1 ≤ maxLen ∧ (M2 + 1) * 24 ≤ 140737488355328 from by unfold maxLen; omega)
              have HBS2 := HBS
              have HNW2 := Lib.hid (row_news wr (.slice pn LN pc) 32)
              have H1C2 := Lib.hid (row_one pn LN pc)
              clear hst hwf hb hbx hcr hap hG hz hr hch hcc hLN hlens hM2 hjl hj hBK
              cases xs
              · clear HO2 HZ2 HBS2 HNW2 H1C2
                have HP := Lib.hid (show F2.put true false r = ⟨F2.ended, F2.last ++ [((r : Int), true)], true⟩ from by unfold Fld.put; rw [HBKE.out]; rfl)
                go_wp2_with (first
                  | (go_at_call 18; (with_reducible refine (HBK.out _).mono ?_); rintro e w3 ⟨rfl, rfl⟩)
                  | (at_builtin; refine wpList_append_lies _ (by rfl) (.tmp 60) (.tmp 65) 32 (by rfl) w.heap.size 48 i0 (.agg #[.int .i32 0, .bool false]) 2 8 Tryd.underlying32 HI.out.1 HI.out.2.1 HI.out.2.2.1 HI.out.2.2.2 (by rfl) (by decide) (.slice pn LN pc) LN (F2.last.flatMap cC) (by rfl) (HO.out _) ⟨wr.heap.size, 0, none⟩ 1 1 [.int .i32 (r : Int), .bool true] (by rfl) (by rfl) HNW.out H1C.out (by decide) HZ.out.1 HZ.out.2 (HBS.out _) (wr.heap.size + 1) (HSZ.out _) ?_; intro g cap w7 hown hgrow hat hglt; have HOW := Lib.hid hown; have HGR := Lib.hid hgrow; have HAT := Lib.hid hat; clear hown hgrow hat hglt))
                obtain ⟨hst, hwf, hb, hbx, hcr, hap, hG, hz⟩ := HR.out
                have hk : ∀ j, j < wr.heap.size → (Value.slice pn LN pc).ownBlock ≠ some j → w7.heap[j]? = wr.heap[j]? := grown_old HGR.out
                have hS := StR.put (x := ((r : Int), true)) HLN.out hst HOW.out hk (HAT.out.imp id fun e => by omega)
                go_roundw
                case rel =>
                  refine ⟨j + 1, F2.put true false r, vs2, by simp, HLT2.out, by rw [HP.out], by rw [HP.out]; exact hS, hwf.put true false _ r, hb.trans (sp_below hb.size (grown_drewR HGR.out) (fun j e => (World.ownsRow.lt hst.row j e).1)), (hk _ (Array.getElem?_eq_some_iff.1 hbx).1 (fun e => blk_ne ((own_type hst.row e).choose_spec) hbx (by decide) rfl)).trans hbx, own_same hcr (fun g hg => hk g (World.ownsRow.lt hcr g hg).2 (hap g hg)), fun g' hg' e => ?_, HGD.out, ?_⟩
                  · have e : g = g' := by simpa [Value.ownBlock] using e
                    subst e
                    rcases HAT.out with h1 | h1
                    · exact hap g hg' h1
                    · have := (World.ownsRow.lt hcr g hg').2; omega
                  · have h1 := put_sz true false F2 r
                    have h2 := HLT2.out
                    omega
                case measure => have := HLT2.out; simp [intOf]; omega
              · clear HO2 HZ2 HBS2 HNW2 H1C2
                have HP := Lib.hid (show F2.put true true r = ⟨F2.ended, F2.last ++ [((r : Int), true)], true⟩ from by unfold Fld.put; rw [HBKE.out]; rfl)
                go_wp2_with (first
                  | (go_at_call 18; (with_reducible refine (HBK.out _).mono ?_); rintro e w3 ⟨rfl, rfl⟩)
                  | (at_builtin; refine wpList_append_lies _ (by rfl) (.tmp 60) (.tmp 65) 32 (by rfl) w.heap.size 48 i0 (.agg #[.int .i32 0, .bool false]) 2 8 Tryd.underlying32 HI.out.1 HI.out.2.1 HI.out.2.2.1 HI.out.2.2.2 (by rfl) (by decide) (.slice pn LN pc) LN (F2.last.flatMap cC) (by rfl) (HO.out _) ⟨wr.heap.size, 0, none⟩ 1 1 [.int .i32 (r : Int), .bool true] (by rfl) (by rfl) HNW.out H1C.out (by decide) HZ.out.1 HZ.out.2 (HBS.out _) (wr.heap.size + 1) (HSZ.out _) ?_; intro g cap w7 hown hgrow hat hglt; have HOW := Lib.hid hown; have HGR := Lib.hid hgrow; have HAT := Lib.hid hat; clear hown hgrow hat hglt))
                obtain ⟨hst, hwf, hb, hbx, hcr, hap, hG, hz⟩ := HR.out
                have hk : ∀ j, j < wr.heap.size → (Value.slice pn LN pc).ownBlock ≠ some j → w7.heap[j]? = wr.heap[j]? := grown_old HGR.out
                have hS := StR.put (x := ((r : Int), true)) HLN.out hst HOW.out hk (HAT.out.imp id fun e => by omega)
                go_roundw
                case rel =>
                  refine ⟨j + 1, F2.put true true r, vs2, by simp, HLT2.out, by rw [HP.out], by rw [HP.out]; exact hS, hwf.put true true _ r, hb.trans (sp_below hb.size (grown_drewR HGR.out) (fun j e => (World.ownsRow.lt hst.row j e).1)), (hk _ (Array.getElem?_eq_some_iff.1 hbx).1 (fun e => blk_ne ((own_type hst.row e).choose_spec) hbx (by decide) rfl)).trans hbx, own_same hcr (fun g hg => hk g (World.ownsRow.lt hcr g hg).2 (hap g hg)), fun g' hg' e => ?_, HGD.out, ?_⟩
                  · have e : g = g' := by simpa [Value.ownBlock] using e
                    subst e
                    rcases HAT.out with h1 | h1
                    · exact hap g hg' h1
                    · have := (World.ownsRow.lt hcr g hg').2; omega
                  · have h1 := put_sz true true F2 r
                    have h2 := HLT2.out
                    omega
                case measure => have := HLT2.out; simp [intOf]; omega
            · have hjI : ¬ (j : Int) < (M : Int) := by omega
              have hd : L.drop j = [] := List.drop_eq_nil_of_le (by rw [HLM.out]; omega)
              rw [hd] at hG
              have hF2 : F2 = G := hG
              subst hF2
              have HR := Lib.hid (And.intro hst (And.intro hwf hb))
              clear hst hwf hb hbx hcr hap hG hz hd hj hjl
              have hk1 := HK1.out
              go_wp2_with fail
              go_roundw
              case rel => exact ⟨k + 1, vs2, by simp, HLT.out, by rw [HFN.out], by rw [HFN.out]; exact HR.out.1, by rw [HFN.out]; exact HR.out.2.1, HR.out.2.2⟩
              case measure => have := HLT.out; simp [intOf]; omega
      · have HFN := Lib.hid (show fieldsF (l.take (k + 1)) = F.fin from HFT.out)
        obtain ⟨BG, hBG⟩ : ∃ b, F.begun = b := ⟨_, rfl⟩
        have HBG := Lib.hid hBG
        rw [hBG]
        have HO := Lib.hid (show ∀ o, (W0.alloc o).ownsRow w.heap.size 32 1 u3 M0 (vs.flatMap slC) from fun o => by have := HH.out.1.fs.row.alloc o; rwa [HM0.out] at this)
        have HBS := Lib.hid (show ∀ o, w.heap.size ≤ (W0.alloc o).heap.size from fun o => by have := HH.out.2.1.size; simp; omega)
        have HNW := Lib.hid (show ∀ j u, ([.slice pn LN pc] : List Value)[j]? = some u → (W0.alloc (.cells #[.slice pn LN pc] 32)).cell? ((⟨wr.heap.size + 1, 0, none⟩ : Addr).add j) = some u from by rw [HH.out.2.2.2.1]; exact row_news W0 _ _)
        have H1C := Lib.hid (row_one pn LN pc)
        clear hBG
        cases BG
        · go_wp2_with fail
          rw [HW0.out]
          go_roundw
          case rel => exact ⟨k + 1, vs, by simp, HLT.out, by rw [HFN.out, HWF.out.fin_eq HBG.out], by rw [HFN.out]; exact HH.out.1.noneF HWF.out HBG.out, by rw [HFN.out]; exact HWF.out.fin, HH.out.2.1⟩
          case measure => have := HLT.out; simp [intOf]; omega
        · go_wp2_with (at_builtin; rw [HW0.out]; refine wpList_append_own _ rfl _ _ 26 rfl w.heap.size 32 i1 (.slice none 0 0) 1 24 Tryd.underlying26 HI1.out.1 HI1.out.2.1 HI1.out.2.2.1 HI1.out.2.2.2 rfl (by decide) u3 M0 (vs.flatMap slC) rfl (HO.out _) ⟨wr.heap.size + 1, 0, none⟩ 1 1 [.slice pn LN pc] (by rfl) (by rfl) HNW.out H1C.out HZ.out.1 HZ.out.2 (HBS.out _) ?_; intro v7 w7 hown hg hn; clear hn; have HO7 := Lib.hid hown; have HG7 := Lib.hid hg; clear hown hg)
          have hk : ∀ j, j < W0.heap.size → u3.ownBlock ≠ some j → w7.heap[j]? = W0.heap[j]? := grown_old HG7.out
          have hS := StR.fin HH.out.1 HBG.out (by rw [HM0.out]; exact HO7.out) hk
          go_roundw
          case rel => exact ⟨k + 1, _, by simp, HLT.out, by rw [HFN.out]; unfold Fld.fin; rw [if_pos HBG.out], by rw [HFN.out]; exact hS, by rw [HFN.out]; exact HWF.out.fin, HH.out.2.1.trans (sp_below HH.out.2.1.size (grown_drewR HG7.out) (fun j e => (World.ownsRow.lt HH.out.1.fs.row j e).1))⟩
          case measure => have := HLT.out; simp [intOf]; omega
    · have hltI : ¬ (k : Int) < (N : Int) := by omega
      have hkN : l.take k = l := List.take_of_length_le (by rw [HN.out]; omega)
      rw [hkN] at hst hwf hsz ⊢
      obtain ⟨pn, pc, hpn⟩ := own_shape hst.row
      obtain ⟨LN, hLN⟩ : ∃ n, (fieldsF l).last.length = n := ⟨_, rfl⟩
      rw [hLN] at hpn
      subst hpn
      have hlens := hst.lens (by omega)
      obtain ⟨M0, hM0⟩ : ∃ n, vs.length = n := ⟨_, rfl⟩
      have HM0 := Lib.hid hM0
      rw [hM0] at hlens
      have HZ := Lib.hid (show M0 + 1 ≤ maxLen ∧ (M0 + 1) * 24 ≤ 140737488355328 from by unfold maxLen; omega)
      have HM := Lib.hid (show fieldsM l = (fieldsF l).fin.ended from rfl)
      obtain ⟨BG, hBG⟩ : ∃ b, (fieldsF l).begun = b := ⟨_, rfl⟩
      have HBG := Lib.hid hBG
      rw [hBG]
      have HST := Lib.hid hst
      have HWF := Lib.hid hwf
      have HO := Lib.hid (show ∀ o, (wr.alloc o).ownsRow w.heap.size 32 1 u3 M0 (vs.flatMap slC) from fun o => by have := hst.fs.row.alloc o; rwa [hM0] at this)
      have HBS := Lib.hid (show ∀ o, w.heap.size ≤ (wr.alloc o).heap.size from fun o => by have := hb.size; simp; omega)
      have HNW := Lib.hid (row_news wr (.slice pn LN pc) 32)
      have H1C := Lib.hid (row_one pn LN pc)
      clear hst hwf hb hsz hkz hlt hk hkN hlens hLN hM0 hBG
      cases BG
      · go_wp2_with fail
        go_ret
        refine ⟨_, rfl, ?_, HB.out⟩
        rw [HM.out, HWF.out.fin_eq HBG.out]
        exact HST.out.fs.rds
      · go_wp2_with (at_builtin; refine wpList_append_own _ rfl _ _ 26 rfl w.heap.size 32 i1 (.slice none 0 0) 1 24 Tryd.underlying26 HI1.out.1 HI1.out.2.1 HI1.out.2.2.1 HI1.out.2.2.2 rfl (by decide) u3 M0 (vs.flatMap slC) rfl (HO.out _) ⟨wr.heap.size, 0, none⟩ 1 1 [.slice pn LN pc] (by rfl) (by rfl) HNW.out H1C.out HZ.out.1 HZ.out.2 (HBS.out _) ?_; intro v7 w7 hown hg hn; clear hn; have HO7 := Lib.hid hown; have HG7 := Lib.hid hg; clear hown hg)
        have hk : ∀ j, j < wr.heap.size → u3.ownBlock ≠ some j → w7.heap[j]? = wr.heap[j]? := grown_old HG7.out
        have hS := StR.fin HST.out HBG.out (by rw [HM0.out]; exact HO7.out) hk
        go_ret
        exact ⟨_, rfl, by rw [HM.out]; exact hS.fs.rds, HB.out.trans (sp_below HB.out.size (grown_drewR HG7.out) (fun j e => (World.ownsRow.lt HST.out.fs.row j e).1))⟩
end Go.Proofs.YtfepkhlifpbkfaaDoor
