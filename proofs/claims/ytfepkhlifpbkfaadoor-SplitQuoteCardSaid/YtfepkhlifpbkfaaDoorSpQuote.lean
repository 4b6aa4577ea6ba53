/-
  Proved: of any texts the law SplitQuote answers true; nothing that was there has turned. Conditions: the library's tables lie as they should.
-/
import Derived.Test.YtfepkhlifpbkfaaDoorSpQuoteM
import Derived.Test.YtfepkhlifpbkfaaDoorSpStr
import Derived.Test.YtfepkhlifpbkfaaDoorSpRTexts
import Derived.Test.YtfepkhlifpbkfaaDoorSpRFields
import Derived.Test.YtfepkhlifpbkfaaDoorSpRSames
import Derived.Test.YtfepkhlifpbkfaaDoorSpKnown
namespace Go.Proofs.YtfepkhlifpbkfaaDoor
open Go Go.RowKit GlyphMath GlMath SpMath

theorem infoRun : (Tryd.prog.info? 24).map (fun i => (i.zero, i.size, i.bytes)) = some (some (.agg #[.string ByteArray.empty, .bool false, .bool false, .bool false]), 4, 24) := by kernel_rfl
/-- Runs of the call's own. -/
def OwnRn (w : World) (B : Nat) (v : Value) (l : List Rn) : Prop := w.ownsRow B 24 4 v l.length (l.flatMap rnC)
theorem OwnRn.add {w : World} {B n : Nat} {v : Value} {l : List Rn} {x : Rn} (hn : l.length = n) (h : w.ownsRow B 24 4 v (n + 1) (l.flatMap rnC ++ rnC x)) : OwnRn w B v (l ++ [x]) := by
  unfold OwnRn
  rw [List.length_append, List.flatMap_append, List.length_singleton, hn]
  simpa using h
theorem OwnRn.below {w w' : World} {B : Nat} {v : Value} {l : List Rn} (h : OwnRn w B v l) (hb : Below w.heap.size w w') : OwnRn w' B v l := own_same h fun g hg => hb.block g (World.ownsRow.lt h g hg).2
theorem RowS.below {w w' : World} {B : Nat} {v : Value} {l : List ByteArray} (h : RowS w B v l) (hb : Below w.heap.size w w') : RowS w' B v l := own_same h fun g hg => hb.block g (World.ownsRow.lt h g hg).2
theorem q_news (w : World) (x : Rn) : ∀ j u, (rnC x)[j]? = some u → (w.alloc (.cells #[.string x.text, .bool x.q, .bool x.s, .bool x.b] 24)).cell? ((⟨w.heap.size, 0, none⟩ : Addr).add j) = some u := fun j u hu => World.news_of_block (heap_alloc_new w _) j u (by simpa [rnC] using hu)
/-- What is ready for an append of a run. -/
structure Rdy (w wr : World) (v : Value) (n : Nat) (l : List Rn) (x : Rn) : Prop where
  own : ∀ o, (wr.alloc o).ownsRow w.heap.size 24 4 v n (l.flatMap rnC)
  news : ∀ j u, [Value.string x.text, .bool x.q, .bool x.s, .bool x.b][j]? = some u → (wr.alloc (.cells #[.string x.text, .bool x.q, .bool x.s, .bool x.b] 24)).cell? ((⟨wr.heap.size, 0, none⟩ : Addr).add j) = some u
  one : ∀ u ∈ [Value.string x.text, .bool x.q, .bool x.s, .bool x.b], u.oneCell' = true
  few : n + 1 ≤ maxLen ∧ (n + 1) * 24 ≤ 140737488355328
  low : ∀ o, w.heap.size ≤ (wr.alloc o).heap.size
theorem Rdy.of {w wr : World} {v : Value} {n : Nat} {l : List Rn} (h : OwnRn wr w.heap.size v l) (hn : l.length = n) (hl : n ≤ 1000) (hb : w.heap.size ≤ wr.heap.size) (x : Rn) : Rdy w wr v n l x where
  own := fun o => by have := World.ownsRow.alloc h o; rwa [hn] at this
  news := q_news wr x
  one := rnE.one x
  few := by unfold maxLen; omega
  low := fun o => by simp; omega
/-- Behind an append to runs: runs, and texts, and what was. -/
theorem q_step {w wr w1 : World} {rv wv v1 : Value} {n : Nat} {o : Obj} {l : List Rn} {x : Rn} {ts : List ByteArray} (hr : OwnRn wr w.heap.size rv l) (hw : RowS wr w.heap.size wv ts) (hb : Below w.heap.size w wr) (hn : l.length = n)
    (hown : w1.ownsRow w.heap.size 24 4 v1 (n + 1) (l.flatMap rnC ++ rnC x)) (hg : (wr.alloc o).grownBy w1 rv.ownBlock) : OwnRn w1 w.heap.size v1 (l ++ [x]) ∧ RowS w1 w.heap.size wv ts ∧ Below w.heap.size w w1 :=
  ⟨OwnRn.add hn hown, own_same hw fun g h => grown_old hg g (World.ownsRow.lt hw g h).2 (own_ap hw hr (by decide) h), hb.trans (sp_below hb.size (grown_drew hg) (fun j e => (World.ownsRow.lt hr j e).1))⟩
/-- Behind an append to texts. -/
theorem s_step {w wr w1 : World} {rv wv v1 : Value} {n : Nat} {o : Obj} {l : List Rn} {x : ByteArray} {ts : List ByteArray} (hr : OwnRn wr w.heap.size rv l) (hw : RowS wr w.heap.size wv ts) (hb : Below w.heap.size w wr) (hn : ts.length = n)
    (hown : w1.ownsRow w.heap.size 9 1 v1 (n + 1) (ts.flatMap sC ++ [.string x])) (hg : (wr.alloc o).grownBy w1 wv.ownBlock) : OwnRn w1 w.heap.size rv l ∧ RowS w1 w.heap.size v1 (ts ++ [x]) ∧ Below w.heap.size w w1 :=
  ⟨own_same hr fun g h => grown_old hg g (World.ownsRow.lt hr g h).2 (own_ap hr hw (by decide) h), RowS.add hn hown, hb.trans (sp_below hb.size (grown_drew hg) (fun j e => (World.ownsRow.lt hw j e).1))⟩
/-- What is ready for an append of a text. -/
structure RdyS (w wr : World) (v : Value) (n : Nat) (l : List ByteArray) (x : ByteArray) : Prop where
  own : ∀ o, (wr.alloc o).ownsRow w.heap.size 9 1 v n (l.flatMap sC)
  news : ∀ j u, [Value.string x][j]? = some u → (wr.alloc (.cells #[.string x] 9)).cell? ((⟨wr.heap.size, 0, none⟩ : Addr).add j) = some u
  one : ∀ u ∈ [Value.string x], u.oneCell' = true
  few : n + 1 ≤ maxLen ∧ (n + 1) * 16 ≤ 140737488355328
  low : ∀ o, w.heap.size ≤ (wr.alloc o).heap.size
theorem RdyS.of {w wr : World} {v : Value} {n : Nat} {l : List ByteArray} (h : RowS wr w.heap.size v l) (hn : l.length = n) (hl : n ≤ 1000) (hb : w.heap.size ≤ wr.heap.size) (x : ByteArray) : RdyS w wr v n l x where
  own := fun o => by have := World.ownsRow.alloc h o; rwa [hn] at this
  news := str_news wr x
  one := str_one x
  few := by unfold maxLen; omega
  low := fun o => by simp; omega
theorem len60 {l : List ByteArray} {k : Nat} {x : ByteArray} (hx : l[k]? = some x) (h60 : ¬ 60 < x.size) (ht : ∀ t ∈ l.take k, t.size ≤ 60) : ∀ t ∈ l.take (k + 1), t.size ≤ 60 := fun t h => by
  rw [List.take_add_one, hx] at h
  rcases List.mem_append.1 h with h | h
  · exact ht t h
  · have : t = x := by simpa using h
    rw [this]; omega
def RelQ (l : List ByteArray) (N : Nat) (w : World) (rv wv iv : Value) (wr : World) : Prop :=
  ∃ k : Nat, iv = .int .i64 (k : Int) ∧ k ≤ N ∧ OwnRn wr w.heap.size rv (qRuns l k) ∧ RowS wr w.heap.size wv ((qChars l k).map txF) ∧ Below w.heap.size w wr ∧ ∀ t ∈ l.take k, t.size ≤ 60
theorem par_int (k : Nat) : (k : Int) % 2 = ((k % 2 : Nat) : Int) := rfl
set_option maxRecDepth 8000 in
set_option maxHeartbeats 4000000 in
theorem splitQuote_law (l : List ByteArray) (v : Value) (w : World) (h : Rd 1 sC w v l) (hT : Tabs w) :
    Calls Tryd.prog 4 #[v] w fun e w' => e = .returned (.bool true) ∧ Below w.heap.size w w' := by
  obtain ⟨p, c, rfl⟩ := h.shape
  have HA := Lib.hid h
  obtain ⟨N, hN⟩ : ∃ N, l.length = N := ⟨_, rfl⟩
  have HN := Lib.hid hN
  have HT := Lib.hid hT
  rw [hN] at HA
  rw [hN]
  clear h hN hT
  by_cases hbig : 20 < N
  · have hI : (20 : Int) < (N : Int) := by omega
    go_enter Tryd.func4, Tryd.ntmps4
    go_wp2_with fail
    go_ret
    exact ⟨rfl, Below.refl _ _⟩
  · have hI : ¬ (20 : Int) < (N : Int) := by omega
    have HN20 := Lib.hid (show N ≤ 20 by omega)
    obtain ⟨i0, hi1, hi2, hi3, hi4⟩ := info_parts infoRun
    have HI := Lib.hid (And.intro hi1 (And.intro hi2 (And.intro hi3 hi4)))
    obtain ⟨i1, hj1, hj2, hj3, hj4⟩ := info_parts infoStr
    have HI1 := Lib.hid (And.intro hj1 (And.intro hj2 (And.intro hj3 hj4)))
    clear hbig hi1 hi2 hi3 hi4 hj1 hj2 hj3 hj4
    go_enter Tryd.func4, Tryd.ntmps4
    go_wp2_with fail
    clear hI
    go_loopw [3, 4, 5] (fun rv wv iv wr => RelQ l N w rv wv iv wr) (fun _ _ iv _ => N - (intOf iv).toNat)
    case atStart => exact ⟨0, rfl, Nat.zero_le _, World.ownsRow_nil _ _ _ _, World.ownsRow_nil _ _ _ _, Below.refl _ _, fun t ht => by cases ht⟩
    case round =>
      obtain ⟨k, rfl, hk, hr, hwn, hb, ht⟩ := hrel
      by_cases hlt : k < N
      · obtain ⟨x, hx⟩ : ∃ x, l[k]? = some x := ⟨_, List.getElem?_eq_getElem (by rw [HN.out]; exact hlt)⟩
        obtain ⟨b, o, hq, c0⟩ := (HA.out.below hb (Nat.le_refl _)).get hx
        subst hq
        have d0 := c0 k _ hx 0 _ rfl
        rw [Nat.mul_one, Nat.add_zero] at d0
        have HLT := Lib.hid hlt
        have hltI : (k : Int) < (N : Int) := by omega
        have hk1 : (k : Int) + 1 ≤ 9223372036854775807 := by have := HN20.out; omega
        have hgd : l.getD k ⟨#[]⟩ = x := by rw [List.getD_eq_getElem?_getD, hx]; rfl
        have hqr : qRuns l (k + 1) = qRuns l k ++ (if k = 0 then [] else [brkR]) ++ [⟨x, true, k % 2 == 0, false⟩] := by rw [← hgd]; rfl
        have hqc : (qChars l (k + 1)).map txF = (qChars l k).map txF ++ [txF (chM true (letters x))] := by rw [take_succ l k (by rw [HN.out]; exact hlt), hgd]; simp
        have hlr := qRuns_len l k
        have hlc : ((qChars l k).map txF).length = k := by unfold qChars; rw [List.length_map, List.length_map, List.length_take, HN.out]; omega
        obtain ⟨R, hR⟩ : ∃ R, qRuns l k = R := ⟨_, rfl⟩
        obtain ⟨TS, hTS⟩ : ∃ R, (qChars l k).map txF = R := ⟨_, rfl⟩
        rw [hR] at hr hqr hlr
        rw [hTS] at hwn hqc hlc
        obtain ⟨n, hn⟩ : ∃ n, R.length = n := ⟨_, rfl⟩
        rw [hn] at hlr
        have HB := Lib.hid hb
        by_cases h60 : 60 < x.size
        · have g1 : (60 : Int) < (x.size : Int) := by omega
          clear hx c0 hr hwn hb ht hqr hqc hlr hlc hR hTS hn hgd hlt hk h60
          go_wp2_with fail
          go_ret
          exact ⟨rfl, HB.out⟩
        · have g1 : ¬ (60 : Int) < (x.size : Int) := by omega
          have HLEN := Lib.hid (len60 hx h60 ht)
          have HC := Lib.hid (fun V (hV : Below w.heap.size w V) => rchars_any x true V (by omega) (HT.out.below hV))
          have HCL := Lib.hid (show (chM true (letters x)).length ≤ 100000 from by have := letters_length x; rw [chM_len]; omega)
          have HQC := Lib.hid hqc
          have HLC := Lib.hid hlc
          obtain ⟨b', o', hq', cw⟩ := HA.out.get hx
          obtain ⟨rfl, rfl⟩ : b = b' ∧ o = o' := by simpa using hq'
          have dw := cw k _ hx 0 _ rfl
          rw [Nat.mul_one, Nat.add_zero] at dw
          have HDW := Lib.hid (fun V (hV : Below w.heap.size w V) => (hV.cell (World.block_lt_of_cell? w _ dw)).trans dw)
          by_cases hk0 : k = 0
          · subst hk0
            rw [Nat.add_zero] at d0
            have HDW0 := Lib.hid (fun V (hV : Below w.heap.size w V) => (show V.cell? ⟨b, o, none⟩ = some (.string x) from HDW.out V hV))
            have HQR := Lib.hid (show qRuns l (0 + 1) = R ++ [⟨x, true, true, false⟩] from by rw [hqr]; simp)
            have HR := Lib.hid (And.intro hr (And.intro hwn (And.intro hb hn)))
            have RD := Lib.hid (Rdy.of hr hn (by have := HN20.out; omega) hb.size ⟨x, true, true, false⟩)
            clear hx c0 hr hwn hb ht hqr hqc hlr hlc hR hTS hn hgd hlt hk h60 cw dw hq'
            go_wp2_with (first
              | (at_builtin; refine wpList_append_lies _ (by rfl) (.tmp 30) (.tmp 39) 22 (by rfl) w.heap.size 24 i0 (.agg #[.string ByteArray.empty, .bool false, .bool false, .bool false]) 4 24 Tryd.underlying22 HI.out.1 HI.out.2.1 HI.out.2.2.1 HI.out.2.2.2 (by rfl) (by decide) u3 n (R.flatMap rnC) (by rfl) (RD.out.own _) ⟨wr.heap.size, 0, none⟩ 1 1 [.string x, .bool true, .bool true, .bool false] (by rfl) (by rfl) RD.out.news RD.out.one (by decide) RD.out.few.1 RD.out.few.2 (RD.out.low _) (wr.heap.size + 1) (by simp) ?_; intro g2 cap2 w2 hown hgrow hat hglt; have H2 := Lib.hid (q_step (x := ⟨x, true, true, false⟩) HR.out.1 HR.out.2.1 HR.out.2.2.1 HR.out.2.2.2 hown hgrow); have d2 := HDW0.out _ H2.out.2.2; clear hown hgrow hat hglt)
              | (go_at_call 14; refine (HC.out _ H2.out.2.2).mono ?_; rintro e w3 ⟨v3, rfl, hr3, hb3⟩; have H3 := Lib.hid (And.intro (H2.out.1.below hb3) (And.intro (H2.out.2.1.below hb3) (And.intro (H2.out.2.2.trans (hb3.mono H2.out.2.2.size)) hr3))); clear hr3 hb3)
              | (go_at_call 13; refine (rtext_any _ _ _ (Rd.of_own cE H3.out.2.2.2) HCL.out).mono ?_; rintro e w4 ⟨rfl, hb4⟩; have H4 := Lib.hid (And.intro (H3.out.1.below hb4) (And.intro (H3.out.2.1.below hb4) (H3.out.2.2.1.trans (hb4.mono H3.out.2.2.1.size)))); have RS := Lib.hid (RdyS.of H4.out.2.1 HLC.out (by have := HN20.out; have := HLT.out; omega) H4.out.2.2.size (txF (chM true (letters x)))); clear hb4)
              | (at_builtin; refine wpList_append_lies _ (by rfl) (.tmp 41) (.tmp 48) 37 (by rfl) w.heap.size 9 i1 (.string ByteArray.empty) 1 16 Tryd.underlying37 HI1.out.1 HI1.out.2.1 HI1.out.2.2.1 HI1.out.2.2.2 (by rfl) (by decide) u4 0 (TS.flatMap sC) (by rfl) (RS.out.own _) ⟨w4.heap.size, 0, none⟩ 1 1 [.string (txF (chM true (letters x)))] (by rfl) (by rfl) RS.out.news RS.out.one (by decide) RS.out.few.1 RS.out.few.2 (RS.out.low _) (w4.heap.size + 1) (by simp) ?_; intro g5 cap5 w5 hown hgrow hat hglt; have H5 := Lib.hid (s_step H4.out.1 H4.out.2.1 H4.out.2.2 HLC.out hown hgrow); clear hown hgrow hat hglt))
            go_roundw
            case rel => exact ⟨0 + 1, by simp, HLT.out, by rw [HQR.out]; exact H5.out.1, by rw [HQC.out]; exact H5.out.2.1, H5.out.2.2, HLEN.out⟩
            case measure => have := HLT.out; simp [intOf]; omega
          · have hkp : 0 < k := by omega
            obtain ⟨P, hP⟩ : ∃ P, (k % 2 == 0) = P := ⟨_, rfl⟩
            have hpar : ((k : Int) % 2 == 0) = P := by rw [← hP, par_int]; rcases Nat.mod_two_eq_zero_or_one k with h | h <;> rw [h] <;> rfl
            rw [hP, if_neg hk0] at hqr
            have HQR := Lib.hid hqr
            have HR := Lib.hid (And.intro hr (And.intro hwn (And.intro hb hn)))
            have RD1 := Lib.hid (Rdy.of hr hn (by have := HN20.out; omega) hb.size brkR)
            have HNB := Lib.hid (show n ≤ 40 from by have := HN20.out; omega)
            clear hx c0 hr hwn hb ht hqr hqc hlr hlc hR hTS hn hgd hlt hk h60 cw dw hk0 hP hq'
            have HK1 := Lib.hid hk1
            clear hk1
            go_wp2_with (first
              | (at_builtin; refine wpList_append_lies _ (by rfl) (.tmp 26) (.tmp 28) 22 (by rfl) w.heap.size 24 i0 (.agg #[.string ByteArray.empty, .bool false, .bool false, .bool false]) 4 24 Tryd.underlying22 HI.out.1 HI.out.2.1 HI.out.2.2.1 HI.out.2.2.2 (by rfl) (by decide) u3 n (R.flatMap rnC) (by rfl) (RD1.out.own _) ⟨wr.heap.size, 0, none⟩ 1 1 [.string ⟨#[]⟩, .bool false, .bool false, .bool true] (by rfl) (by rfl) RD1.out.news RD1.out.one (by decide) RD1.out.few.1 RD1.out.few.2 (RD1.out.low _) (wr.heap.size + 1) (by simp) ?_; intro g1 cap1 w1 hown hgrow hat hglt; have H1 := Lib.hid (q_step (x := brkR) HR.out.1 HR.out.2.1 HR.out.2.2.1 HR.out.2.2.2 hown hgrow); have HN1 := Lib.hid (show (R ++ [brkR]).length = n + 1 from by simp [HR.out.2.2.2]); have RD := Lib.hid (Rdy.of H1.out.1 HN1.out (by have := HNB.out; omega) H1.out.2.2.size ⟨x, true, P, false⟩); have d1 := HDW.out _ H1.out.2.2; clear hown hgrow hat hglt)
              | (at_builtin; refine wpList_append_lies _ (by rfl) (.tmp 30) (.tmp 39) 22 (by rfl) w.heap.size 24 i0 (.agg #[.string ByteArray.empty, .bool false, .bool false, .bool false]) 4 24 Tryd.underlying22 HI.out.1 HI.out.2.1 HI.out.2.2.1 HI.out.2.2.2 (by rfl) (by decide) (.slice (some ⟨g1, 0, none⟩) (n + 1) cap1) (n + 1) ((R ++ [brkR]).flatMap rnC) (by rfl) (RD.out.own _) ⟨w1.heap.size, 0, none⟩ 1 1 [.string x, .bool true, .bool P, .bool false] (by rfl) (by rfl) RD.out.news RD.out.one (by decide) RD.out.few.1 RD.out.few.2 (RD.out.low _) (w1.heap.size + 1) (by simp) ?_; intro g2 cap2 w2 hown hgrow hat hglt; have H2 := Lib.hid (q_step (x := ⟨x, true, P, false⟩) H1.out.1 H1.out.2.1 H1.out.2.2 HN1.out hown hgrow); have d2 := HDW.out _ H2.out.2.2; clear hown hgrow hat hglt)
              | (go_at_call 14; refine (HC.out _ H2.out.2.2).mono ?_; rintro e w3 ⟨v3, rfl, hr3, hb3⟩; have H3 := Lib.hid (And.intro (H2.out.1.below hb3) (And.intro (H2.out.2.1.below hb3) (And.intro (H2.out.2.2.trans (hb3.mono H2.out.2.2.size)) hr3))); clear hr3 hb3)
              | (go_at_call 13; refine (rtext_any _ _ _ (Rd.of_own cE H3.out.2.2.2) HCL.out).mono ?_; rintro e w4 ⟨rfl, hb4⟩; have H4 := Lib.hid (And.intro (H3.out.1.below hb4) (And.intro (H3.out.2.1.below hb4) (H3.out.2.2.1.trans (hb4.mono H3.out.2.2.1.size)))); have RS := Lib.hid (RdyS.of H4.out.2.1 HLC.out (by have := HN20.out; have := HLT.out; omega) H4.out.2.2.size (txF (chM true (letters x)))); clear hb4)
              | (at_builtin; refine wpList_append_lies _ (by rfl) (.tmp 41) (.tmp 48) 37 (by rfl) w.heap.size 9 i1 (.string ByteArray.empty) 1 16 Tryd.underlying37 HI1.out.1 HI1.out.2.1 HI1.out.2.2.1 HI1.out.2.2.2 (by rfl) (by decide) u4 k (TS.flatMap sC) (by rfl) (RS.out.own _) ⟨w4.heap.size, 0, none⟩ 1 1 [.string (txF (chM true (letters x)))] (by rfl) (by rfl) RS.out.news RS.out.one (by decide) RS.out.few.1 RS.out.few.2 (RS.out.low _) (w4.heap.size + 1) (by simp) ?_; intro g5 cap5 w5 hown hgrow hat hglt; have H5 := Lib.hid (s_step H4.out.1 H4.out.2.1 H4.out.2.2 HLC.out hown hgrow); have hk1 := HK1.out; clear hown hgrow hat hglt))
            go_roundw
            case rel => exact ⟨k + 1, by simp, HLT.out, by rw [HQR.out]; exact H5.out.1, by rw [HQC.out]; exact H5.out.2.1, H5.out.2.2, HLEN.out⟩
            case measure => have := HLT.out; simp [intOf]; omega
      · have hltI : ¬ (k : Int) < (N : Int) := by omega
        have hkN : k = N := by omega
        subst hkN
        have hta : ∀ t ∈ l, t.size ≤ 60 := by rwa [List.take_of_length_le (by rw [HN.out]; omega)] at ht
        have hqf := quote_fields l
        rw [HN.out] at hqf
        have HF := Lib.hid (fields_any (qRuns l k) u3 wr (Rd.of_own rnE hr) (by have := qRuns_len l k; have := HN20.out; omega) (fun x hx => by have := qRuns_size l 60 hta k x hx; omega))
        rw [hqf] at HF
        have hfl : ∀ fl ∈ qChars l k, fl.length ≤ 100000 := fun fl h => by
          unfold qChars at h
          obtain ⟨t, h1, rfl⟩ := List.mem_map.1 h
          have h2 := hta t (List.mem_of_mem_take h1)
          have h3 := letters_length t
          rw [chM_len]; omega
        have HFL := Lib.hid hfl
        have hlc : (qChars l k).length = k := by unfold qChars; rw [List.length_map, List.length_take, HN.out]; omega
        have HW := Lib.hid (And.intro (Rd.of_own sE hwn) hb)
        obtain ⟨QC, hQC⟩ : ∃ Q, qChars l k = Q := ⟨_, rfl⟩
        rw [hQC] at HF HFL HW hlc
        have HLC := Lib.hid hlc
        clear hr hwn hb ht hta hqf hfl hlc hQC hk hlt
        go_wp2_with (go_at_call 6; refine HF.out.mono ?_; rintro e w1 ⟨u, rfl, hr, hb⟩; obtain ⟨pf, cf, rfl, -⟩ := hr.shape; rw [HLC.out] at hr ⊢; have HR := Lib.hid hr; have B1 := Lib.hid (HW.out.2.trans (hb.mono HW.out.2.size)); have WB := Lib.hid (HW.out.1.below hb (Nat.le_refl _)); clear hr hb HF)
        go_loopw [7, 8] (fun gv iv wz => ∃ j : Nat, iv = .int .i64 (j : Int) ∧ j ≤ k ∧ RowS wz w1.heap.size gv ((QC.take j).map txF) ∧ Below w1.heap.size w1 wz) (fun _ iv _ => k - (intOf iv).toNat)
        case atStart => exact ⟨0, rfl, Nat.zero_le _, World.ownsRow_nil _ _ _ _, Below.refl _ _⟩
        case round =>
          obtain ⟨j, rfl, hj, hrow, hb⟩ := hrel
          have HB := Lib.hid hb
          by_cases hjl : j < k
          · obtain ⟨fl, hfl⟩ : ∃ fl, QC[j]? = some fl := ⟨_, List.getElem?_eq_getElem (by rw [HLC.out]; exact hjl)⟩
            obtain ⟨bf, of, sl, hpf, hcf, hrf⟩ := (HR.out.below hb).at hfl
            subst hpf
            have HTX := Lib.hid (rtext_any fl (slV sl) wr hrf (HFL.out fl (List.mem_of_getElem? hfl)))
            obtain ⟨q1, q2, q3⟩ := sl
            simp only [slV] at hcf HTX
            have HX := Lib.hid (show (QC.take (j + 1)).map txF = (QC.take j).map txF ++ [txF fl] from by rw [List.take_add_one, hfl]; simp)
            have hn : ((QC.take j).map txF).length = j := by rw [List.length_map, List.length_take, HLC.out]; omega
            have HNJ := Lib.hid hn
            have HRW := Lib.hid hrow
            have HJL := Lib.hid hjl
            have hjI : (j : Int) < (k : Int) := by omega
            have hj1 : (j : Int) + 1 ≤ 9223372036854775807 := by have := HN20.out; omega
            clear hrow hb hjl hj hfl hrf hn
            go_wp2_with (first
              | (go_at_call 13; refine HTX.out.mono ?_; rintro e w4 ⟨rfl, hb4⟩; have H4 := Lib.hid (And.intro (HRW.out.below hb4) (HB.out.trans (hb4.mono HB.out.size))); have RS := Lib.hid (RdyS.of H4.out.1 HNJ.out (by have := HN20.out; have := HJL.out; omega) H4.out.2.size (txF fl)); clear hb4)
              | (at_builtin; refine wpList_append_lies _ (by rfl) (.tmp 58) (.tmp 64) 37 (by rfl) w1.heap.size 9 i1 (.string ByteArray.empty) 1 16 Tryd.underlying37 HI1.out.1 HI1.out.2.1 HI1.out.2.2.1 HI1.out.2.2.2 (by rfl) (by decide) u7 j (((QC.take j).map txF).flatMap sC) (by rfl) (RS.out.own _) ⟨w4.heap.size, 0, none⟩ 1 1 [.string (txF fl)] (by rfl) (by rfl) RS.out.news RS.out.one (by decide) RS.out.few.1 RS.out.few.2 (RS.out.low _) (w4.heap.size + 1) (by simp) ?_; intro g5 cap5 w5 hown hgrow hat hglt; have H5 := Lib.hid (And.intro hown hgrow); clear hown hgrow hat hglt))
            go_roundw
            case rel => exact ⟨j + 1, by simp, HJL.out, by rw [HX.out]; exact RowS.add HNJ.out H5.out.1, H4.out.2.trans (sp_below H4.out.2.size (grown_drew H5.out.2) (fun j e => (World.ownsRow.lt H4.out.1 j e).1))⟩
            case measure => have := HJL.out; simp [intOf]; omega
          · have hjI : ¬ (j : Int) < (k : Int) := by omega
            have HG := Lib.hid (show Rd 1 sC wr u7 (QC.map txF) from by
              have h1 : QC.take j = QC := List.take_of_length_le (by rw [HLC.out]; omega)
              rw [h1] at hrow
              exact Rd.of_own sE hrow)
            have HW2 := Lib.hid (WB.out.below hb (Nat.le_refl _))
            clear hrow hb hjl hj
            go_wp2_with (first
              | (go_at_call 15; refine (rtexts_any _ _ _ _ HG.out HW2.out).mono ?_; rintro e w5 ⟨rfl, hb⟩; have B5 := Lib.hid (HB.out.trans (hb.mono HB.out.size)); clear hb)
              | (go_at_call 12; refine (known_any _).mono ?_; rintro e w6 ⟨rfl, hb⟩; have B6 := Lib.hid (B5.out.trans (hb.mono B5.out.size)); clear hb))
            go_ret
            exact ⟨rfl, B1.out.trans (B6.out.mono B1.out.size)⟩
end Go.Proofs.YtfepkhlifpbkfaaDoor
