/-
  Proved: contracts of the statements' own open and opens. Conditions: texts of at most 2^20 bytes; the library's tables lie as they should.
-/
import Derived.Test.YtloaalapkmbgeaaDoorTreeROpen
namespace Go.Proofs.YtloaalapkmbgeaaDoor
open Go Go.RowKit GlyphMath LexMath TreeMath

/-- A word's first part is one. -/
theorem word_first {q : Pt} {r : List Pt} (h : wordT (q :: r) = true) : partT (rowT 20) false q = true := by
  unfold wordT at h
  rw [Bool.and_eq_true] at h
  have h2 := h.2
  rw [rowT, sideT, Bool.and_eq_true] at h2
  exact h2.1
theorem bare_first {q : Pt} {r : List Pt} (h : wordT (q :: r) = true) (h1 : q.kind = 1) (h2 : q.q = false) : q.text ≠ [] := by
  have hp := word_first h
  unfold partT at hp
  rw [if_pos h1, Bool.and_eq_true, Bool.and_eq_true] at hp
  have hl := hp.2.2
  unfold litT at hl
  rw [h2, Bool.false_or, Bool.and_eq_true, Bool.and_eq_true] at hl
  intro e
  rw [e] at hl
  simp at hl

set_option maxHeartbeats 1000000 in
set_option maxRecDepth 100000 in
theorem ropen_any (ps : List Pt) (v : Value) (w : World) (hv : PsAt w v ps) (hs : Small ps) (hT : Tabs w) :
    Calls Tryd.prog 31 #[wordV v] w fun e w' => e = .returned (.bool (bareW ps)) ∧ Below w.heap.size w w' := by
  have HB := Lib.hid (fun o => below_one w o)
  obtain ⟨B, hB⟩ : ∃ B, wordT ps = B := ⟨_, rfl⟩
  have HW := Lib.hid (show ∀ o, Calls Tryd.prog 57 #[.agg #[v]] (w.alloc o) fun e w' => e = .returned (.bool B) ∧ Below (w.alloc o).heap.size (w.alloc o) w' from fun o => by rw [← hB]; exact rword_any ps v _ (hv.stays (HB.out o)) hs (hT.below (HB.out o)))
  obtain ⟨R, hR⟩ : ∃ R, bareW ps = R := ⟨_, rfl⟩
  have HR := Lib.hid (show R = (B && !hashT (openT ps)) from by rw [← hR, ← hB]; rfl)
  rw [hR]
  unfold wordV
  cases B with
  | false =>
    have HF := Lib.hid (show false = R from HR.out.symm)
    obtain ⟨p, c, rfl, -, -⟩ := hv.is
    obtain ⟨L, hL⟩ : ∃ L, ps.length = L := ⟨_, rfl⟩
    rw [hL] at HW ⊢
    clear hv hs hT hB hR HR hL
    go_enter Tryd.func31, Tryd.ntmps31
    go_wp2_with (go_at_call 57; refine (HW.out _).mono ?_; rintro e w2 ⟨rfl, hb⟩; have HB2 := Lib.hid ((HB.out _).trans (hb.mono (HB.out _).size)); clear hb)
    go_ret
    exact ⟨ret_bool HF.out, HB2.out⟩
  | true =>
    match ps, hv, hs, hB, HR, HW with
    | [], _, _, hB, _, _ => cases hB
    | q :: r, hv, hs, hB, HR, HW =>
      obtain ⟨b, o, c, u, rfl, ⟨up, uc, rfl⟩, c0, c1, c2, c3, c4⟩ := first_cells hv
      have hne := bare_first hB
      obtain ⟨tx, htx⟩ : ∃ tx, q.text = tx := ⟨_, rfl⟩
      have HG := Lib.hid (show R = !hashT (if (q.kind == 1 && !q.q) = true then tx else []) from by rw [← htx]; exact HR.out)
      rw [htx] at c1 hne
      obtain ⟨s, hs2⟩ : ∃ s, T tx = s := ⟨_, rfl⟩
      have HTX := Lib.hid (show s.data.toList = tx from by rw [← hs2])
      obtain ⟨s2, hs3⟩ : ∃ s, T q.op = s := ⟨_, rfl⟩
      obtain ⟨kd, hkd⟩ : ∃ s, q.kind = s := ⟨_, rfl⟩
      obtain ⟨qq, hqq⟩ : ∃ s, q.q = s := ⟨_, rfl⟩
      obtain ⟨ul, hul⟩ : ∃ s, q.word.length = s := ⟨_, rfl⟩
      rw [hs2] at c1
      rw [hs3] at c2
      rw [hkd] at c0 HG hne
      rw [hqq] at c4 HG hne
      rw [hul] at c3
      have hL2 : (0 : Int) < ((r.length + 1 : Nat) : Int) := by omega
      obtain ⟨L, hLL⟩ : ∃ L, r.length + 1 = L := ⟨_, rfl⟩
      rw [hLL] at hL2 HW ⊢
      have HWX := Lib.hid (word_cell w (.slice (some ⟨b, o, none⟩) L c) 33)
      have HC := Lib.hid (fun (W : World) (hW : Below w.heap.size w W) => (⟨cell_below c0 hW, cell_below c1 hW, cell_below c2 hW, cell_below c3 hW, cell_below c4 hW⟩ : W.cell? ⟨b, o, none⟩ = some (.int .i64 kd) ∧ W.cell? ⟨b, o + 1, none⟩ = some (.string s) ∧ W.cell? ⟨b, o + 2, none⟩ = some (.string s2) ∧ W.cell? ⟨b, o + 3, none⟩ = some (.slice up ul uc) ∧ W.cell? ⟨b, o + 4, none⟩ = some (.bool qq)))
      clear hv hs hT hB hR HR htx hs2 hs3 hkd hqq hul hLL c0 c1 c2 c3 c4
      go_enter Tryd.func31, Tryd.ntmps31
      by_cases h : kd = 1
      · subst h
        cases qq with
        | true =>
          have HF := Lib.hid (show true = R from HG.out.symm)
          clear hne HG
          go_wp2_with (go_at_call 57; refine (HW.out _).mono ?_; rintro e w2 ⟨rfl, hb⟩; have hx := cell_below HWX.out hb; have HB2 := Lib.hid ((HB.out _).trans (hb.mono (HB.out _).size)); obtain ⟨c0, c1, c2, c3, c4⟩ := HC.out w2 HB2.out; clear hb)
          go_ret
          exact ⟨ret_bool HF.out, HB2.out.alloc HB2.out.size _⟩
        | false =>
          obtain ⟨ch, rest, hcr⟩ : ∃ ch rest, tx = ch :: rest := by
            cases tx with
            | nil => exact absurd rfl (hne rfl rfl)
            | cons a b => exact ⟨a, b, rfl⟩
          have HF := Lib.hid (show R = !(ch == 35) from by rw [HG.out, hcr]; rfl)
          have hsz : 0 < s.size := by rw [Lib.size_eq, HTX.out, hcr]; simp
          have hget : s[0]'hsz = ch := by
            rw [← get_is s 0 hsz]
            have := get_drop s 0 hsz
            rw [List.drop_zero, HTX.out, hcr] at this
            simp only [List.cons.injEq] at this
            exact this.1.symm
          have HSI := Lib.hid (show (0 : Int) < (s.size : Int) by omega)
          have hsi := HSI.out
          by_cases h35 : ch = 35
          · have HF2 := Lib.hid (show false = R from by rw [HF.out, h35]; rfl)
            have hb : (((s[0]'hsz).toNat : Int) != 35) = false := by rw [hget, h35]; rfl
            clear hne HG hcr hget h35 HF
            go_wp2_with (go_at_call 57; refine (HW.out _).mono ?_; rintro e w2 ⟨rfl, hb⟩; have hx := cell_below HWX.out hb; have HB2 := Lib.hid ((HB.out _).trans (hb.mono (HB.out _).size)); obtain ⟨c0, c1, c2, c3, c4⟩ := HC.out w2 HB2.out; clear hb)
            go_ret
            exact ⟨ret_bool HF2.out, HB2.out.alloc HB2.out.size _⟩
          · have HF2 := Lib.hid (show true = R from by
              rw [HF.out]
              have : (ch == 35) = false := by simpa using h35
              rw [this]; rfl)
            have hb : (((s[0]'hsz).toNat : Int) != 35) = true := by
              rw [hget]
              have : ((ch.toNat : Int) == 35) = false := int_ne fun e => h35 (UInt8.toNat_inj.1 (by show _ = 35; omega))
              show (!((ch.toNat : Int) == 35)) = true
              rw [this]; rfl
            clear hne HG hcr hget h35 HF
            go_wp2_with (go_at_call 57; refine (HW.out _).mono ?_; rintro e w2 ⟨rfl, hb⟩; have hx := cell_below HWX.out hb; have HB2 := Lib.hid ((HB.out _).trans (hb.mono (HB.out _).size)); obtain ⟨c0, c1, c2, c3, c4⟩ := HC.out w2 HB2.out; clear hb)
            go_ret
            exact ⟨ret_bool HF2.out, HB2.out.alloc HB2.out.size _⟩
      · have h1 : (kd != 1) = true := by simpa using h
        have HF := Lib.hid (show true = R from by rw [HG.out, int_ne h]; rfl)
        clear hne HG h
        go_wp2_with (go_at_call 57; refine (HW.out _).mono ?_; rintro e w2 ⟨rfl, hb⟩; have hx := cell_below HWX.out hb; have HB2 := Lib.hid ((HB.out _).trans (hb.mono (HB.out _).size)); obtain ⟨c0, c1, c2, c3, c4⟩ := HC.out w2 HB2.out; clear hb)
        go_ret
        exact ⟨ret_bool HF.out, HB2.out.alloc HB2.out.size _⟩

set_option maxHeartbeats 1000000 in
set_option maxRecDepth 100000 in
theorem ropens_any (l : List (List Pt)) (v : Value) (w : World) (hv : WsAt w v l) (hs : ∀ x ∈ l, Small x) (hT : Tabs w) :
    Calls Tryd.prog 30 #[v] w fun e w' => e = .returned (.bool (l.all bareW)) ∧ Below w.heap.size w w' := by
  have HV := Lib.hid hv
  have HS := Lib.hid hs
  have HT := Lib.hid hT
  obtain ⟨p, c, rfl⟩ := WsAt.is hv
  have hfew := hv.few
  obtain ⟨R, hR⟩ : ∃ R, l.all bareW = R := ⟨_, rfl⟩
  have HR := Lib.hid hR
  obtain ⟨N, hN⟩ : ∃ N, l.length = N := ⟨_, rfl⟩
  have HN := Lib.hid hN
  have hN0 : (N : Int) ≤ 2 ^ 63 - 1 := by unfold maxLen at hfew; omega
  rw [hR]
  rw [hN] at HV ⊢
  clear hv hs hR hN hfew hT
  go_enter Tryd.func30, Tryd.ntmps30
  go_wp2_with fail
  go_loopw [3] (fun i wr => ∃ j, j ≤ N ∧ i = .int .i64 (j : Int) ∧ Below w.heap.size w wr ∧ (l.drop j).all bareW = R) (fun i _ => N - (intOf i).toNat)
  case atStart => exact ⟨0, by omega, rfl, Below.refl _ _, HR.out⟩
  case round =>
    obtain ⟨j, hj, rfl, hb, hsd⟩ := hrel
    by_cases hlt : j < N
    · obtain ⟨x, hx⟩ : ∃ x, l[j]? = some x := ⟨_, List.getElem?_eq_getElem (by rw [HN.out]; exact hlt)⟩
      obtain ⟨b, o, rfl⟩ := SlAt.ptr HV.out hx
      obtain ⟨cs, ⟨u, rfl, hu⟩, hc⟩ := SlAt.cell HV.out rfl hx
      have hj0 : (j : Int) < (N : Int) := by omega
      have HSX := Lib.hid (HS.out x (List.mem_of_getElem? hx))
      rw [drop_get hx, List.all_cons] at hsd
      have HSD := Lib.hid hsd
      have HB := Lib.hid hb
      have HJ := Lib.hid hlt
      have c0 : wr.cell? ⟨b, o + j, none⟩ = some u := by
        have := cell_below (hc 0 _ rfl) hb
        rwa [show o + j * 1 + 0 = o + j by omega] at this
      obtain ⟨up, uc, rfl, -, -⟩ := hu.is
      have HE := Lib.hid (ropen_any x (.slice up x.length uc) wr (hu.stays hb) HSX.out (HT.out.below hb))
      unfold wordV at HE
      obtain ⟨ul, hul⟩ : ∃ ul, x.length = ul := ⟨_, rfl⟩
      rw [hul] at HE c0
      clear hul
      clear hsd hb hlt hj hx hc hu
      obtain ⟨P, hP⟩ : ∃ P, bareW x = P := ⟨_, rfl⟩
      rw [hP] at HE HSD
      clear hP
      cases P
      · have HF := Lib.hid (show false = R from HSD.out)
        go_wp2_with (go_at_call 31; refine HE.out.mono ?_; rintro e w2 ⟨rfl, hb2⟩; have HB2 := Lib.hid (HB.out.trans (hb2.mono HB.out.size)); clear hb2)
        go_ret
        exact ⟨ret_bool HF.out, HB2.out⟩
      · have HF := Lib.hid (show (l.drop (j + 1)).all bareW = R from HSD.out)
        go_wp2_with (go_at_call 31; refine HE.out.mono ?_; rintro e w2 ⟨rfl, hb2⟩; have HB2 := Lib.hid (HB.out.trans (hb2.mono HB.out.size)); clear hb2)
        exact ⟨⟨j + 1, by have := HJ.out; omega, by go_num, HB2.out, HF.out⟩, by have := HJ.out; simp [intOf]; omega⟩
    · obtain rfl : j = N := by omega
      have hj0 : ¬ (j : Int) < (j : Int) := by omega
      rw [List.drop_of_length_le (by rw [HN.out]; exact Nat.le_refl _)] at hsd
      have HE := Lib.hid (show true = R from hsd)
      have HB := Lib.hid hb
      clear hsd hb hlt hj
      go_wp2_with fail
      go_ret
      exact ⟨ret_bool HE.out, HB.out⟩
end Go.Proofs.YtloaalapkmbgeaaDoor
