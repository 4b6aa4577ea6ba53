/-
  Proved: texts joined: Proved: the contract of a parser's list, of whatever commands. Conditions: the reader lies in memory.
  Proved: contracts of a parser's enclosed, body, loop, of whatever commands. Conditions: the reader lies in memory.
-/
import Derived.Test.YtakceggnadagmaaGreatDoorPj10
namespace Go.Proofs.YtakceggnadagmaaGreatDoor
open Go Go.RowKit GlyphMath LexMath TreeMath ParseMath

theorem listL_go {cmd : Do} {f : Nat} {l : List Tr} {S : PS} (h : S.sep.1 = true) (h2 : S.sep.2.ends = false) : listL cmd (f + 1) l S = listL cmd f (l ++ [(andorM cmd S.sep.2).1]) (andorM cmd S.sep.2).2 := by rw [listL, if_pos (by rw [h, h2]; rfl)]
theorem listL_end {cmd : Do} {f : Nat} {l : List Tr} {S : PS} (h : S.sep.1 = false ∨ S.sep.2.ends = true) : listL cmd (f + 1) l S = (l, S.sep.2) := by rw [listL, if_neg (by rcases h with h | h <;> rw [h] <;> simp)]

set_option maxHeartbeats 4000000 in
set_option maxRecDepth 4000 in
theorem plist_any {w0 : World} {cmd : Do} {d : Nat} (hok : DoOk cmd) (hc : CallDo w0 77 (andorM cmd) d) : CallDo w0 44 (listM cmd) d := by
  intro w X S h
  have HB := Lib.hid (below_new w)
  have HX := Lib.hid h.base
  have HZ := Lib.hid (show (w.alloc ZN).heap[w.heap.size]? = some ZN from heap_alloc_new w ZN)
  have HT := Lib.hid (plines_any (h.new (below_new w ZN)))
  have HG1 := Lib.hid (to_lines h.good)
  have HM := Lib.hid (show listM cmd S = (several [115, 101, 113] (listL cmd (andorM cmd S.lines).2.ts.length [(andorM cmd S.lines).1] (andorM cmd S.lines).2).1, (listL cmd (andorM cmd S.lines).2.ts.length [(andorM cmd S.lines).1] (andorM cmd S.lines).2).2) from rfl)
  obtain ⟨S1, hS1⟩ : ∃ S1, S.lines = S1 := ⟨_, rfl⟩
  rw [hS1] at HM HT HG1
  obtain ⟨q, hq⟩ : ∃ q, listL cmd (andorM cmd S1).2.ts.length [(andorM cmd S1).1] (andorM cmd S1).2 = q := ⟨_, rfl⟩
  rw [hq] at HM
  have HQ := Lib.hid hq
  have HC := Lib.hid hc
  have HOK := Lib.hid (to_andor hok)
  obtain ⟨D, hD⟩ : ∃ D : Int, (d : Int) = D := ⟨_, rfl⟩
  have HD := Lib.hid hD
  rw [hD]
  clear h hS1 hq hc hD
  go_enter Tryz.func44, Tryz.ntmps44
  go_wp2_with (first
    | (go_at_call 76; refine HT.out.mono ?_; rintro en w1 ⟨rfl, hs1⟩; have HS1 := Lib.hid (And.intro hs1 (hs1.2.heap HZ.out (by have := HX.out; omega))); clear hs1)
    | (go_at_call 77; rw [← HD.out]; refine (HC.out w1 X S1 HS1.out.1.1).mono ?_; rintro en w2 ⟨c1, rfl, hcel, hnew, hs2⟩; rw [HD.out]; have HS2 := Lib.hid (And.intro hcel (And.intro hnew (And.intro hs2 (hs2.2.heap HS1.out.2 (by have := HX.out; omega))))); clear hcel hnew hs2)
    | (refine wpList_one elNode (by rfl) (.tmp 10) (by rfl) _ c1 rfl HS2.out.1 (by rfl) ?_))
  have hrow := RowG.one (e := 56) (B := w.heap.size + 1) HS2.out.1 HS2.out.2.1 (Array.getElem?_eq_some_iff.1 HS1.out.2).1 (Nat.le_trans (Array.getElem?_eq_some_iff.1 HS1.out.2).1 HS2.out.2.2.1.2.size)
  obtain ⟨F1, hrow, -⟩ := hrow
  have hL0 : LpO w0 w (w2.alloc (.cells c1.toArray 56)) X (some ⟨w2.heap.size, 0, none⟩) 1 [c1] [(andorM cmd S1).1] F1 (andorM cmd S1).2 := by
    have hg1 := HG1.out
    have hg2 := HOK.out _ hg1.good
    have hfew := hg2.good.few
    refine ⟨hrow, HS2.out.2.2.1.1.new (below_new _ _), (Below.heap_alloc _ _ _ (Array.getElem?_eq_some_iff.1 HS2.out.2.2.2).1).trans HS2.out.2.2.2, (((Kept.of_below (HB.out ZN)).on HS1.out.1.2).on HS2.out.2.2.1.2).on (Kept.of_below (below_new _ _)), by simp only [List.length_singleton]; omega⟩
  have HL0 := Lib.hid hL0
  clear hL0 hrow
  go_loopw [5] (fun v wr => ∃ f p c css l F S', v = .slice p l.length c ∧ LpO w0 w wr X p c css l F S' ∧ listL cmd f l S' = q ∧ S'.ts.length ≤ f) (fun _ wr => psLen wr X)
  case atStart => exact ⟨_, _, _, _, _, _, _, rfl, HL0.out, HQ.out, Nat.le_refl _⟩
  case round =>
    obtain ⟨f, p, c, css, l, F, S', rfl, hL, hm, hf⟩ := hrel
    have hpos := hL.pr.good.pos
    obtain ⟨f, rfl⟩ : ∃ g, f = g + 1 := ⟨f - 1, by omega⟩
    have HT2 := Lib.hid (psep_any hL.pr)
    have HTS := Lib.hid (to_sep hL.pr.good)
    have HS := Lib.hid (And.intro hL (And.intro hm hf))
    clear hL hm hf hpos
    have fin : (S'.sep.1 = false ∨ S'.sep.2.ends = true) → listM cmd S = (several [115, 101, 113] l, S'.sep.2) := fun h => by rw [HM.out, ← HS.out.2.1, listL_end h]
    obtain ⟨n, hn⟩ : ∃ n, l.length = n := ⟨_, rfl⟩
    have HN := Lib.hid hn
    rw [hn]
    clear hn
    cases h1 : S'.sep.1 with
    | false =>
      rw [h1] at HT2
      have HE := Lib.hid (fin (.inl h1))
      clear h1 fin
      go_wp2_with (first
        | (go_at_call 78; refine HT2.out.mono ?_; rintro en w3 ⟨rfl, hs⟩; have HL3 := Lib.hid (HS.out.1.step HX.out.2 hs HTS.out.len); have HSV := Lib.hid (several_any HL3.out.row (by have := HL3.out.few; unfold maxLen; omega) [115, 101, 113]); rw [HN.out] at HSV; clear hs)
        | (go_at_call 80; refine HSV.out.mono ?_; rintro en w4 ⟨c4, rfl, hcel, hnew, hb4⟩; have HS4 := Lib.hid (And.intro hcel (And.intro hnew (And.intro hb4 ((hb4.block w.heap.size (by have := HL3.out.size; omega)).trans HL3.out.zero)))); clear hcel hnew hb4)
        | (refine wpList_store_row (by rfl) 56 (.tmp 4) (.tmp 26) (by rfl) w.heap.size c4.toArray (by rfl) (by rfl) 56 zeroN.toArray HS4.out.2.2.2 (by rw [node_info]; simp [HS4.out.1.1]) (by simp [HS4.out.1.1, zeroN, ofC]) (all_oneCell_toArray HS4.out.1.2) ?_))
      (try simp only [Exit.inBlock, Exit.then])
      obtain ⟨hcel, hnew, hb4, hz4⟩ := HS4.out
      refine bodyPost_ret (ret_tree rfl (setRow_heap w4 w.heap.size zeroN.toArray c4.toArray 56 (0, 0) hz4) hcel rfl) rfl ?_
      rw [HE.out]
      exact HL3.out.ret HX.out.2 HX.out.1 hb4 hcel hnew
    | true =>
      rw [h1] at HT2
      have HI1 := Lib.hid h1
      clear h1
      cases h2 : S'.sep.2.ends with
      | true =>
        have HE := Lib.hid (fin (.inr h2))
        have HEN := Lib.hid (fun W (hW : Pr w0 W X S'.sep.2) => pends_any hW)
        rw [h2] at HEN
        clear h2 fin
        go_wp2_with (first
          | (go_at_call 78; refine HT2.out.mono ?_; rintro en w3 ⟨rfl, hs⟩; have HL3 := Lib.hid (HS.out.1.step HX.out.2 hs HTS.out.len); clear hs)
          | (go_at_call 79; refine (HEN.out _ HL3.out.pr).mono ?_; rintro en w5 ⟨rfl, hb5⟩; have HL5 := Lib.hid (HL3.out.step HX.out.2 ⟨HL3.out.pr.new hb5, Kept.of_below hb5⟩ (Nat.le_refl _)); have HSV := Lib.hid (several_any HL5.out.row (by have := HL5.out.few; unfold maxLen; omega) [115, 101, 113]); rw [HN.out] at HSV; clear hb5)
          | (go_at_call 80; refine HSV.out.mono ?_; rintro en w4 ⟨c4, rfl, hcel, hnew, hb4⟩; have HS4 := Lib.hid (And.intro hcel (And.intro hnew (And.intro hb4 ((hb4.block w.heap.size (by have := HL5.out.size; omega)).trans HL5.out.zero)))); clear hcel hnew hb4)
          | (refine wpList_store_row (by rfl) 56 (.tmp 4) (.tmp 26) (by rfl) w.heap.size c4.toArray (by rfl) (by rfl) 56 zeroN.toArray HS4.out.2.2.2 (by rw [node_info]; simp [HS4.out.1.1]) (by simp [HS4.out.1.1, zeroN, ofC]) (all_oneCell_toArray HS4.out.1.2) ?_))
        (try simp only [Exit.inBlock, Exit.then])
        obtain ⟨hcel, hnew, hb4, hz4⟩ := HS4.out
        refine bodyPost_ret (ret_tree rfl (setRow_heap w4 w.heap.size zeroN.toArray c4.toArray 56 (0, 0) hz4) hcel rfl) rfl ?_
        rw [HE.out]
        exact HL5.out.ret HX.out.2 HX.out.1 hb4 hcel hnew
      | false =>
        have HI2 := Lib.hid h2
        have HEN := Lib.hid (fun W (hW : Pr w0 W X S'.sep.2) => pends_any hW)
        rw [h2] at HEN
        clear h2 fin
        go_wp2_with (first
          | (go_at_call 78; refine HT2.out.mono ?_; rintro en w3 ⟨rfl, hs⟩; have HL3 := Lib.hid (HS.out.1.step HX.out.2 hs HTS.out.len); clear hs)
          | (go_at_call 79; refine (HEN.out _ HL3.out.pr).mono ?_; rintro en w5 ⟨rfl, hb5⟩; have HL5 := Lib.hid (HL3.out.step HX.out.2 ⟨HL3.out.pr.new hb5, Kept.of_below hb5⟩ (Nat.le_refl _)); clear hb5)
          | (go_at_call 77; rw [← HD.out]; refine (HC.out _ X S'.sep.2 HL5.out.pr).mono ?_; rintro en w6 ⟨c5, rfl, hcel, hnew, hs⟩; rw [HD.out]; have HS6 := Lib.hid (And.intro hcel (And.intro hnew (And.intro hs (HL5.out.step HX.out.2 hs (HOK.out _ HL5.out.pr.good).len)))); clear hcel hnew hs)
          | (refine wpList_one elNode (by rfl) (.tmp 22) (by rfl) _ c5 rfl HS6.out.1 (by rfl) ?_)
          | (at_builtin; refine wpList_push elNode (by rfl) (.tmp 19) (.tmp 23) (by rfl) HS6.out.2.2.2.row HS6.out.1 HS6.out.2.1 HL5.out.size (fun k hk => (HL5.out.row.lt k (.inr hk)).2) (by have := HS6.out.2.2.2.few; omega) (by rw [HN.out]; rfl) (by rfl) HS6.out.2.2.2.size ?_; intro p6 c6 F6 w7 hr6 _ _ hk6; rw [HN.out] at hr6; have HS7 := Lib.hid (And.intro hr6 hk6); clear hr6 hk6))
        have hlt : (andorM cmd S'.sep.2).2.ts.length < S'.ts.length := by
          have h1 := (HOK.out _ HL5.out.pr.good).len
          have h2 := sep_lt HS.out.1.pr.good HI1.out
          omega
        have h6 := HS7.out.1
        rw [← HN.out] at h6
        have hfew := HS.out.1.few
        have hLP := HS6.out.2.2.2.push HX.out.2 HX.out.1 h6 HS7.out.2 (by omega)
        have HLP := Lib.hid hLP
        clear h6 hLP
        go_roundw
        case rel => exact ⟨f, p6, c6, _, _, F6, _, by rw [List.length_append, HN.out]; rfl, HLP.out, by rw [← listL_go HI1.out HI2.out]; exact HS.out.2.1, by have := HS.out.2.2; omega⟩
        case measure => rw [HLP.out.pr.len, HS.out.1.pr.len]; exact hlt
end Go.Proofs.YtakceggnadagmaaGreatDoor

namespace Go.Proofs.YtakceggnadagmaaGreatDoor
open Go Go.RowKit GlyphMath LexMath TreeMath ParseMath

theorem AdO.make {w0 w w2 : World} {X B : Nat} {c : List Value} {t : Tr} {S : PS} (hcel : Cel 8 c) (hnew : NewAt w0 w2 B fun W => TrC W c t) (hB : w.heap.size < B) (hpr : Pr w0 w2 X S) (hz : w2.heap[w.heap.size]? = some ZN) (hk : Kept (fun k => k = X) w w2) :
    ∃ F, AdO w0 w (w2.alloc (.cells c.toArray 56)) X w2.heap.size c t F S := by
  obtain ⟨F, f1, f2⟩ := hnew
  have hzl := (Array.getElem?_eq_some_iff.1 hz).1
  exact ⟨F, heap_alloc_new w2 _, hcel, f2.same fun k hk => Below.heap_alloc _ _ _ (f1 k hk).2, fun k hk => ⟨by have := (f1 k hk).1; omega, by have := (f1 k hk).2; rw [World.size_alloc]; omega, by have := (f1 k hk).2; omega⟩, by omega, hpr.new (below_new _ _), (Below.heap_alloc _ _ _ hzl).trans hz, hk.on (Kept.of_below (below_new _ _))⟩
theorem AdO.ret {w0 w w4 : World} {X Bx : Nat} {c : List Value} {n : Tr} {F : Nat → Prop} {S : PS} (h : AdO w0 w w4 X Bx c n F S) (hX : X < w.heap.size) (hX0 : w0.heap.size ≤ X) : TrEnd w0 w (w4.setRow w.heap.size c.toArray) (.returned (.agg c.toArray)) X (n, S) := by
  have hk := kept_row0 w4 w.heap.size c.toArray
  exact ⟨c, rfl, h.cel, ⟨F, fun k hk' => ⟨Nat.le_of_lt (h.far k hk').1, by rw [setRow_size]; exact (h.far k hk').2.1⟩, h.tree.same fun k hk' => hk.block k (h.far k hk').2.1 (by have := (h.far k hk').1; omega)⟩, h.pr.kept hk (by omega) (fun i hi => by omega), h.kept.trans hk fun i hi => .inr (by omega)⟩
/-- What a call answers that takes a tree without redirs. -/
def TrEndR (w0 w w' : World) (e : Ending) (X : Nat) (r : Tr × PS) : Prop := ∃ c, e = .returned (.agg c.toArray) ∧ (Cel 8 c ∧ c[6]? = some (.slice none 0 0) ∧ r.1.node.redirs = []) ∧ NewAt w0 w' w.heap.size (fun W => TrC W c r.1) ∧ PStep w0 w w' X r.2
theorem AdO.retR {w0 w w4 : World} {X Bx : Nat} {c : List Value} {n : Tr} {F : Nat → Prop} {S : PS} (h : AdO w0 w w4 X Bx c n F S) (hX : X < w.heap.size) (hX0 : w0.heap.size ≤ X) (h6 : c[6]? = some (.slice none 0 0)) (hr : n.node.redirs = []) : TrEndR w0 w (w4.setRow w.heap.size c.toArray) (.returned (.agg c.toArray)) X (n, S) := by
  have hk := kept_row0 w4 w.heap.size c.toArray
  exact ⟨c, rfl, ⟨h.cel, h6, hr⟩, ⟨F, fun k hk' => ⟨Nat.le_of_lt (h.far k hk').1, by rw [setRow_size]; exact (h.far k hk').2.1⟩, h.tree.same fun k hk' => hk.block k (h.far k hk').2.1 (by have := (h.far k hk').1; omega)⟩, h.pr.kept hk (by omega) (fun i hi => by omega), h.kept.trans hk fun i hi => .inr (by omega)⟩
theorem ofC_six (o : ByteArray) (v : Value) : (ofC o v)[6]? = some (.slice none 0 0) := rfl
theorem wrap1 {d : Nat} (h : d ≤ 100) : IntKind.i64.wrap ((d : Int) + 1) = ((d + 1 : Nat) : Int) := by
  rw [show (d : Int) + 1 = ((d + 1 : Nat) : Int) by omega]
  exact IntWalk.i64_in _ ⟨by omega, by omega⟩
theorem kept_alloc2 {w w1 : World} {z : Obj} (hz : w1.heap[w.heap.size]? = some z) (o : Obj) : (w1.alloc o).heap[w.heap.size]? = some z := (Below.heap_alloc _ _ _ (Array.getElem?_eq_some_iff.1 hz).1).trans hz

/-- What is behind an 'of' of one list. -/
theorem enclosed_made {w0 w w1 w2 w3 w4 : World} {X : Nat} {S1 S2 : PS} {c1 : List Value} {t : Tr} {op : List UInt8} {o : ByteArray} (hX : X < w.heap.size) (hs1 : PStep w0 (w.alloc ZN) w1 X S1) (hz1 : w1.heap[w.heap.size]? = some ZN) (hcel : Cel 8 c1) (hnew : NewAt w0 w2 w1.heap.size fun W => TrC W c1 t) (hs2 : PStep w0 w1 w2 X S2)
    (h3 : w3 = w2.alloc (.cells c1.toArray 56)) (h4 : Below w3.heap.size w3 w4) (ho : T op = o) :
    ∃ F, AdO w0 w (w4.alloc (.cells (ofC o (.slice (some ⟨w2.heap.size, 0, none⟩) 1 1)).toArray 56)) X w4.heap.size (ofC o (.slice (some ⟨w2.heap.size, 0, none⟩) 1 1)) (trOf op [t]) F S2 := by
  have hl1 := (Array.getElem?_eq_some_iff.1 hz1).1
  have hz2 := hs2.2.heap hz1 (by omega)
  have hsz := hs2.2.size
  obtain ⟨F, hr, -⟩ := RowG.one (w0 := w0) (e := 56) (B := w.heap.size + 1) hcel hnew hl1 (by omega)
  have ht := of_tree hr (by simp [maxLen]) op
  rw [← h3, ho] at ht
  have hz3 : w3.heap[w.heap.size]? = some ZN := by rw [h3]; exact kept_alloc2 hz2 _
  have hk : Kept (fun k => k = X) w w4 := ((((Kept.of_below (below_new w ZN)).on hs1.2).on hs2.2).on (Kept.of_below (by rw [h3]; exact below_new w2 _))).on (Kept.of_below h4)
  have hb3 : Below w2.heap.size w2 w3 := by rw [h3]; exact below_new w2 _
  exact AdO.make (ofC_cel _ _ _ _) (ht.kept (D := fun _ => False) (Kept.of_below h4) (fun _ _ _ h => h)) (by omega) ((hs2.1.new hb3).new h4) ((h4.block _ (Array.getElem?_eq_some_iff.1 hz3).1).trans hz3) hk
/-- Two trees have become one, in the result's variable. -/
theorem AdO.two {w0 w w4 w5 w6 : World} {X Bx : Nat} {c c5 : List Value} {n t : Tr} {F : Nat → Prop} {S : PS} (h : AdO w0 w w5 X Bx c n F S) (hX : X < w.heap.size) (hX0 : w0.heap.size ≤ X) (hc5 : Cel 8 c5) (h5 : NewAt w0 w5 w4.heap.size fun W => TrC W c5 t) (hw4 : w4.heap.size ≤ w5.heap.size) (hB4 : Bx < w4.heap.size) {op : List UInt8} {o : ByteArray}
    (h6 : Below (w5.alloc (.cells (c ++ c5).toArray 56)).heap.size (w5.alloc (.cells (c ++ c5).toArray 56)) w6) (ho : T op = o) :
    TrEndR w0 w (w6.setRow w.heap.size (ofC o (.slice (some ⟨w5.heap.size, 0, none⟩) 2 2)).toArray) (.returned (.agg (ofC o (.slice (some ⟨w5.heap.size, 0, none⟩) 2 2)).toArray)) X (trOf op [n, t], S) := by
  obtain ⟨F5, f1, f2⟩ := h5
  have hbase := h.base
  have hb : ∀ k, F k ∨ F5 k → w.heap.size + 1 ≤ k ∧ k < w5.heap.size := fun k hk => hk.elim (fun hk => ⟨(h.far k hk).1, (h.far k hk).2.1⟩) fun hk => ⟨by have := (f1 k hk).1; omega, (f1 k hk).2⟩
  have hr : Kids w0 _ _ _ _ _ _ := RowG.two (e := 56) (B := w.heap.size + 1) h.cel hc5 h.tree f2 hb (by omega)
  have ht := of_tree hr (by simp [maxLen]) op
  rw [ho] at ht
  have hx : Kept (fun _ => False) w5 w6 := (Kept.of_below (below_new _ _)).on (Kept.of_below h6)
  have hk := kept_row0 w6 w.heap.size (ofC o (.slice (some ⟨w5.heap.size, 0, none⟩) 2 2)).toArray
  exact ⟨_, rfl, ⟨ofC_cel _ _ _ _, ofC_six _ _, rfl⟩, ((ht.kept (D := fun _ => False) (Kept.of_below h6) (fun _ _ _ h => h)).kept hk (fun k h1 h2 => by omega)).base (by omega), (h.pr.kept hx (fun h => h) (fun _ h => h.elim)).kept hk (by omega) (fun k e => by omega), (h.kept.trans hx (fun _ h => h.elim)).trans hk fun i hi => .inr (by omega)⟩

set_option maxHeartbeats 2000000 in
set_option maxRecDepth 4000 in
theorem penclosed_any {w0 : World} {cmd : Do} {d : Nat} (hd : d ≤ 100) (hc : CallDo w0 44 (listM cmd) (d + 1)) (op cl : List UInt8) (w : World) (X : Nat) (S : PS) (h : Pr w0 w X S) :
    Calls Tryz.prog 184 #[.pointer (some ⟨X, 0, none⟩), .string (T op), .string (T cl), .int .i64 (d : Int)] w fun e w' => TrEndR w0 w w' e X (enclosedM cmd op cl S) := by
  have HX := Lib.hid h.base
  have HB := Lib.hid (below_new w)
  have HT := Lib.hid (ptake_any (h.new (below_new w ZN)))
  have HC := Lib.hid hc
  have HN := Lib.hid (fun W S' (hW : Pr w0 W X S') => pneed_any hW cl)
  have HM := Lib.hid (show enclosedM cmd op cl S = (trOf op [(listM cmd S.take).1], (listM cmd S.take).2.need cl) from rfl)
  obtain ⟨o, ho⟩ : ∃ o, T op = o := ⟨_, rfl⟩
  have HO := Lib.hid ho
  obtain ⟨k, hk⟩ : ∃ k, T cl = k := ⟨_, rfl⟩
  rw [ho, hk]
  rw [hk] at HN
  have hwr := wrap1 hd
  obtain ⟨D, hD⟩ : ∃ D : Int, (d : Int) = D := ⟨_, rfl⟩
  rw [hD] at hwr ⊢
  obtain ⟨D1, hD1⟩ : ∃ D : Int, ((d + 1 : Nat) : Int) = D := ⟨_, rfl⟩
  have HD1 := Lib.hid hD1
  rw [hD1] at hwr
  clear h hc ho hk hD hD1 hd
  go_enter Tryz.func184, Tryz.ntmps184
  go_wp2_with (first
    | (go_at_call 105; refine HT.out.mono ?_; rintro en w1 ⟨p, k1, rfl, -, hs⟩; have HS1 := Lib.hid (And.intro hs (hs.2.heap (heap_alloc_new w ZN) (by have := HX.out; omega))); clear hs)
    | (go_at_call 44; rw [← HD1.out]; refine (HC.out w1 X S.take HS1.out.1.1).mono ?_; rintro en w2 ⟨c1, rfl, hcel, hnew, hs⟩; have HS2 := Lib.hid (And.intro hcel (And.intro hnew (And.intro hs (hs.2.heap HS1.out.2 (by have := HX.out; omega))))); clear hcel hnew hs)
    | (refine wpList_one elNode (by rfl) (.tmp 16) (by rfl) _ c1 rfl HS2.out.1 (by rfl) ?_; obtain ⟨w3, hw3⟩ : ∃ w3, w3 = w2.alloc (.cells c1.toArray 56) := ⟨_, rfl⟩; rw [← hw3]; have HW3 := Lib.hid hw3; clear hw3)
    | (go_at_call 106; refine (of_any _ _ _ _ _).mono ?_; rintro en w4 ⟨rfl, hb4⟩; have HB4 := Lib.hid hb4; clear hb4)
    | (refine wpList_store_row (by rfl) 56 (.tmp 9) (.tmp 18) (by rfl) w4.heap.size (ofC o (.slice (some ⟨w2.heap.size, 0, none⟩) 1 1)).toArray (by rfl) (by rfl) 56 zeroN.toArray (heap_alloc_new w4 _) (by rw [node_info]; rfl) rfl (all_oneCell_toArray (ofC_cel _ _ _ _).2) ?_; rw [World.setRow_alloc_new]; obtain ⟨F, hA⟩ := enclosed_made HX.out.2 HS1.out.1 HS1.out.2 HS2.out.1 HS2.out.2.1 HS2.out.2.2.1 HW3.out HB4.out HO.out; obtain ⟨w5, hw5⟩ : ∃ w5, w5 = w4.alloc (.cells (ofC o (.slice (some ⟨w2.heap.size, 0, none⟩) 1 1)).toArray 56) := ⟨_, rfl⟩; rw [← hw5] at hA ⊢; have HA := Lib.hid hA; clear hA hw5)
    | (go_at_call 182; refine (HN.out _ _ HA.out.pr).mono ?_; rintro en w6 ⟨rfl, hs⟩; have HA6 := Lib.hid (HA.out.step HX.out.2 hs); clear hs)
    | (refine wpList_load_row (by rfl) 56 (.tmp 9) (by rfl) w4.heap.size (by rfl) 56 (ofC o (.slice (some ⟨w2.heap.size, 0, none⟩) 1 1)).toArray (0, 0) _ HA6.out.box Tryz.underlying56 rfl (by rw [node_info]; rfl) ?_)
    | (refine wpList_store_row (by rfl) 56 (.tmp 8) (.tmp 22) (by rfl) w.heap.size (ofC o (.slice (some ⟨w2.heap.size, 0, none⟩) 1 1)).toArray (by rfl) (by rfl) 56 zeroN.toArray HA6.out.zero (by rw [node_info]; rfl) rfl (all_oneCell_toArray (ofC_cel _ _ _ _).2) ?_))
  (try simp only [Exit.inBlock, Exit.then])
  refine bodyPost_ret (ret_tree rfl (setRow_heap w6 w.heap.size zeroN.toArray _ 56 (0, 0) HA6.out.zero) (ofC_cel _ _ _ _) rfl) rfl ?_
  rw [HM.out]
  exact HA6.out.retR HX.out.2 HX.out.1 (ofC_six _ _) rfl

set_option maxHeartbeats 2000000 in
set_option maxRecDepth 4000 in
theorem pbody_any {w0 : World} {cmd : Do} {d : Nat} (hd : d ≤ 100) (hc : CallDo w0 44 (listM cmd) (d + 1)) : CallDo w0 195 (bodyM cmd) d := by
  intro w X S h
  have HX := Lib.hid h.base
  have HT := Lib.hid (pneed_any (h.new (below_new w ZN)) [100, 111])
  have HC := Lib.hid hc
  have HN := Lib.hid (fun W S' (hW : Pr w0 W X S') => pneed_any hW [100, 111, 110, 101])
  have HM := Lib.hid (show bodyM cmd S = ((listM cmd (S.need [100, 111])).1, (listM cmd (S.need [100, 111])).2.need [100, 111, 110, 101]) from rfl)
  have hwr := wrap1 hd
  obtain ⟨D, hD⟩ : ∃ D : Int, (d : Int) = D := ⟨_, rfl⟩
  rw [hD] at hwr ⊢
  obtain ⟨D1, hD1⟩ : ∃ D : Int, ((d + 1 : Nat) : Int) = D := ⟨_, rfl⟩
  have HD1 := Lib.hid hD1
  rw [hD1] at hwr
  clear h hc hD hD1 hd
  go_enter Tryz.func195, Tryz.ntmps195
  go_wp2_with (first
    | (go_at_call 44; rw [← HD1.out]; refine (HC.out w1 X _ HS1.out.1.1).mono ?_; rintro en w2 ⟨c1, rfl, hcel, hnew, hs⟩; have HS2 := Lib.hid (And.intro hcel (And.intro hnew (And.intro hs (hs.2.heap HS1.out.2 (by have := HX.out; omega))))); clear hcel hnew hs)
    | (refine wpList_store_row (by rfl) 56 (.tmp 5) (.tmp 11) (by rfl) w2.heap.size c1.toArray (by rfl) (by rfl) 56 zeroN.toArray (heap_alloc_new w2 _) (by rw [node_info]; simp [HS2.out.1.1]) (by simp [HS2.out.1.1, zeroN, ofC]) (all_oneCell_toArray HS2.out.1.2) ?_; rw [World.setRow_alloc_new]; obtain ⟨F, hA⟩ := AdO.make (w := w) HS2.out.1 HS2.out.2.1 (Array.getElem?_eq_some_iff.1 HS1.out.2).1 HS2.out.2.2.1.1 HS2.out.2.2.2 (((Kept.of_below (below_new w ZN)).on HS1.out.1.2).on HS2.out.2.2.1.2); obtain ⟨w5, hw5⟩ : ∃ w5, w5 = w2.alloc (.cells c1.toArray 56) := ⟨_, rfl⟩; rw [← hw5] at hA ⊢; have HA := Lib.hid hA; clear hA hw5)
    | (go_at_call 182; refine (HN.out _ _ HA.out.pr).mono ?_; rintro en w6 ⟨rfl, hs⟩; have HA6 := Lib.hid (HA.out.step HX.out.2 hs); clear hs)
    | (go_at_call 182; refine HT.out.mono ?_; rintro en w1 ⟨rfl, hs⟩; have HS1 := Lib.hid (And.intro hs (hs.2.heap (heap_alloc_new w ZN) (by have := HX.out; omega))); clear hs)
    | (refine wpList_load_row (by rfl) 56 (.tmp 5) (by rfl) w2.heap.size (by rfl) 56 c1.toArray (0, 0) _ HA6.out.box Tryz.underlying56 rfl (by rw [node_info]; simp [HS2.out.1.1]) ?_)
    | (refine wpList_store_row (by rfl) 56 (.tmp 4) (.tmp 14) (by rfl) w.heap.size c1.toArray (by rfl) (by rfl) 56 zeroN.toArray HA6.out.zero (by rw [node_info]; simp [HS2.out.1.1]) (by simp [HS2.out.1.1, zeroN, ofC]) (all_oneCell_toArray HS2.out.1.2) ?_))
  (try simp only [Exit.inBlock, Exit.then])
  refine bodyPost_ret (ret_tree rfl (setRow_heap w6 w.heap.size zeroN.toArray _ 56 (0, 0) HA6.out.zero) HS2.out.1 rfl) rfl ?_
  rw [HM.out]
  exact HA6.out.ret HX.out.2 HX.out.1

set_option maxHeartbeats 2000000 in
set_option maxRecDepth 4000 in
theorem ploop_any {w0 : World} {cmd : Do} {d : Nat} (hd : d ≤ 100) (hc : CallDo w0 44 (listM cmd) (d + 1)) (op : List UInt8) (w : World) (X : Nat) (S : PS) (h : Pr w0 w X S) :
    Calls Tryz.prog 186 #[.pointer (some ⟨X, 0, none⟩), .string (T op), .int .i64 (d : Int)] w fun e w' => TrEndR w0 w w' e X (loopM cmd op S) := by
  have HX := Lib.hid h.base
  have HT := Lib.hid (ptake_any (h.new (below_new w ZN)))
  have HC := Lib.hid hc
  have HBD := Lib.hid (pbody_any hd hc)
  have HM := Lib.hid (show loopM cmd op S = (trOf op [(listM cmd S.take).1, (bodyM cmd (listM cmd S.take).2).1], (bodyM cmd (listM cmd S.take).2).2) from rfl)
  obtain ⟨o, ho⟩ : ∃ o, T op = o := ⟨_, rfl⟩
  have HO := Lib.hid ho
  rw [ho]
  have hwr := wrap1 hd
  obtain ⟨D, hD⟩ : ∃ D : Int, (d : Int) = D := ⟨_, rfl⟩
  have HD := Lib.hid hD
  rw [hD] at hwr ⊢
  obtain ⟨D1, hD1⟩ : ∃ D : Int, ((d + 1 : Nat) : Int) = D := ⟨_, rfl⟩
  have HD1 := Lib.hid hD1
  rw [hD1] at hwr
  clear h hc ho hD hD1 hd
  go_enter Tryz.func186, Tryz.ntmps186
  go_wp2_with (first
    | (go_at_call 105; refine HT.out.mono ?_; rintro en w1 ⟨p, k1, rfl, -, hs⟩; have HS1 := Lib.hid (And.intro hs (hs.2.heap (heap_alloc_new w ZN) (by have := HX.out; omega))); clear hs)
    | (go_at_call 44; rw [← HD1.out]; refine (HC.out w1 X S.take HS1.out.1.1).mono ?_; rintro en w2 ⟨c1, rfl, hcel, hnew, hs⟩; have HS2 := Lib.hid (And.intro hcel (And.intro hnew (And.intro hs (hs.2.heap HS1.out.2 (by have := HX.out; omega))))); clear hcel hnew hs)
    | (refine wpList_store_row (by rfl) 56 (.tmp 7) (.tmp 13) (by rfl) w2.heap.size c1.toArray (by rfl) (by rfl) 56 zeroN.toArray (heap_alloc_new w2 _) (by rw [node_info]; simp [HS2.out.1.1]) (by simp [HS2.out.1.1, zeroN, ofC]) (all_oneCell_toArray HS2.out.1.2) ?_; rw [World.setRow_alloc_new]; obtain ⟨F, hA⟩ := AdO.make (w := w) HS2.out.1 HS2.out.2.1 (Array.getElem?_eq_some_iff.1 HS1.out.2).1 HS2.out.2.2.1.1 HS2.out.2.2.2 (((Kept.of_below (below_new w ZN)).on HS1.out.1.2).on HS2.out.2.2.1.2); obtain ⟨w5, hw5⟩ : ∃ w5, w5 = w2.alloc (.cells c1.toArray 56) := ⟨_, rfl⟩; rw [← hw5] at hA ⊢; have HA := Lib.hid hA; clear hA hw5))
  simp only [Act.put]
  refine regionL (S := (fun W => W.heap[w2.heap.size]? = some (.cells c1.toArray 56 (0, 0)))) (L := 7) (by kernel_rfl) ?_ (fun hHeld => ?_)
  · exact HA.out.box
  refine takeL (i := 0) (k := 14) (v := ?_) rfl (by kernel_rfl) (by kernel_rfl) (by kernel_rfl) (by kernel_rfl) (fun _ _ _ h => h) (by kernel_rfl) (by kernel_rfl) (by kernel_rfl) (by rfl) ?_ (by assumption) ?_
  rotate_left
  · intro w hSw; (try dsimp only at hSw); go_simp <;> (with_reducible rfl)
  simp only [List.setIfInBounds_toArray, List.set_cons_zero, List.set_cons_succ]
  refine takeL (i := 1) (k := 15) (v := .agg c1.toArray) rfl (by kernel_rfl) (by kernel_rfl) (by kernel_rfl) (by kernel_rfl) (fun _ _ _ h => h) (by kernel_rfl) (by kernel_rfl) (by kernel_rfl) (by rfl) ?_ (by assumption) ?_
  · intro w hSw; exact exec_load_row _ 56 (.tmp 7) rfl w2.heap.size rfl 56 c1.toArray (0, 0) _ hSw Tryz.underlying56 rfl (by rw [node_info]; simp [HA.out.cel.1])
  simp only [List.setIfInBounds_toArray, List.set_cons_zero, List.set_cons_succ]
  refine takeL (i := 2) (k := 16) (v := ?_) rfl (by kernel_rfl) (by kernel_rfl) (by kernel_rfl) (by kernel_rfl) (fun _ _ _ h => h) (by kernel_rfl) (by kernel_rfl) (by kernel_rfl) (by rfl) ?_ (by assumption) ?_
  rotate_left
  · intro w hSw; (try dsimp only at hSw); go_simp <;> (with_reducible rfl)
  simp only [List.setIfInBounds_toArray, List.set_cons_zero, List.set_cons_succ]
  refine takeL (i := 3) (k := 17) (v := ?_) rfl (by kernel_rfl) (by kernel_rfl) (by kernel_rfl) (by kernel_rfl) (fun _ _ _ h => h) (by kernel_rfl) (by kernel_rfl) (by kernel_rfl) (by rfl) ?_ (by assumption) ?_
  rotate_left
  · intro w hSw; (try dsimp only at hSw); go_simp <;> (with_reducible rfl)
  simp only [List.setIfInBounds_toArray, List.set_cons_zero, List.set_cons_succ]
  refine nextL (i := 4) (by kernel_rfl) rfl (by kernel_rfl) (fun K hK => ?_)
  go_simp
  go_wp2_with (go_at_call 195; rw [← HD.out]; refine (HBD.out _ X (listM cmd S.take).2 (HA.out.pr.kept (D := fun _ => False) (Kept.of_below (below_drewA w5)) (fun h => h) (fun _ h => h.elim))).mono ?_; rintro en w7 ⟨c7, rfl, hcel, hnew, hs⟩; rw [HD.out]; have HA7 := Lib.hid ((HA.out.new HX.out.2 (below_drewA w5)).step HX.out.2 hs); have HS7 := Lib.hid (And.intro hcel (And.intro hnew hs.2.size)); clear hcel hnew hs)
  refine hK.out _ _ ?_ ?_
  · exact .inr HA7.out.box
  clear hK K
  refine nextL (i := 5) (by kernel_rfl) rfl (by kernel_rfl) (fun K hK => ?_)
  refine wp_two elNode (.tmp 15) (.tmp 18) rfl _ _ c1 c7 rfl rfl HA7.out.cel HS7.out.1 rfl rfl ?_
  refine hK.out _ _ ?_ ?_
  · exact .inr ((Below.heap_alloc w7 _ _ (Array.getElem?_eq_some_iff.1 HA7.out.box).1).trans HA7.out.box)
  clear hK K
  simp only [Act.put, List.getElem_toArray, List.getElem_cons_succ, List.getElem_cons_zero, List.setIfInBounds_toArray, List.set_cons_zero, List.set_cons_succ]
  refine nextL (i := 6) (by kernel_rfl) rfl (by kernel_rfl) (fun K hK => ?_)
  go_simp
  go_wp2_with (go_at_call 106; refine (of_any _ _ _ _ _).mono ?_; rintro en w8 ⟨rfl, hb8⟩; have HB8 := Lib.hid (And.intro hb8 (And.intro ((hb8.block w2.heap.size (by rw [World.size_alloc]; have := (Array.getElem?_eq_some_iff.1 HA7.out.box).1; omega)).trans ((Below.heap_alloc w7 _ _ (Array.getElem?_eq_some_iff.1 HA7.out.box).1).trans HA7.out.box)) ((hb8.block w.heap.size (by rw [World.size_alloc]; have := (Array.getElem?_eq_some_iff.1 HA7.out.zero).1; omega)).trans ((Below.heap_alloc w7 _ _ (Array.getElem?_eq_some_iff.1 HA7.out.zero).1).trans HA7.out.zero)))); clear hb8)
  refine hK.out _ _ ?_ ?_
  · exact .inr HB8.out.2.1
  clear hK K
  refine nextL (i := 7) (by kernel_rfl) rfl (by kernel_rfl) (fun K hK => ?_)
  refine wp_store_row 56 (.tmp 6) (.tmp 20) rfl w.heap.size (ofC o (.slice (some ⟨w7.heap.size, 0, none⟩) 2 2)).toArray rfl rfl 56 zeroN.toArray HB8.out.2.2 (by rw [node_info]; rfl) rfl (all_oneCell_toArray (ofC_cel _ _ _ _).2) ?_
  refine hK.out _ _ ?_ ?_
  · exact .inl (by kernel_rfl)
  clear hK K
  simp only [Act.put, List.getElem_toArray, List.getElem_cons_succ, List.getElem_cons_zero]
  refine doneL (by kernel_rfl) ?_ _
  go_wp2_with fail
  (try simp only [Exit.inBlock, Exit.then])
  refine bodyPost_ret (ret_tree rfl (setRow_heap w8 w.heap.size zeroN.toArray _ 56 (0, 0) HB8.out.2.2) (ofC_cel _ _ _ _) rfl) rfl ?_
  rw [HM.out]
  exact HA7.out.two HX.out.2 HX.out.1 HS7.out.1 HS7.out.2.1 HS7.out.2.2 (Array.getElem?_eq_some_iff.1 HA.out.box).1 HB8.out.1 HO.out
end Go.Proofs.YtakceggnadagmaaGreatDoor
