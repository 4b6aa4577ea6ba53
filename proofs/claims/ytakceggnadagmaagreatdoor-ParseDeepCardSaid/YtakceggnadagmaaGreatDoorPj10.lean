/-
  Proved: texts joined: Proved: within a region that draws its order and whose last operation turns what others have read, an operation that only reads is taken first, though what it reads is held only till the last operation comes up. Conditions: as each says.
  Proved: the contract of a parser's andor, of whatever commands. Conditions: the reader lies in memory.
-/
import Derived.Test.YtakceggnadagmaaGreatDoorRows
import Derived.Deep.RegionHeld
import Derived.Test.YtakceggnadagmaaGreatDoorPj09
namespace Go.Proofs.YtakceggnadagmaaGreatDoor
open Go

section
variable {P : Program} {ops : Array Oper} {Q : Exit → Act → World → Prop} {md : Region.Mode} {S : World → Prop} {L : Nat}
/-- Whatever order is picked from here on, and S holds behind every operation that is carried out ahead of number L. -/
def wpAnyL (P : Program) (md : Region.Mode) (ops : Array Oper) (Q : Exit → Act → World → Prop) (S : World → Prop) (L : Nat) : Nat → Array Bool → Act → World → Prop
  | 0, listed, a, w => Region.ready md ops listed = [] ∧ Q .normal a w
  | fuel + 1, listed, a, w =>
    (Region.ready md ops listed = [] → Q .normal a w) ∧
    ∀ i ∈ Region.ready md ops listed, wpOp P ops Q i (fun a' w' => ((listed.setIfInBounds i true).getD L true = true ∨ S w') ∧ wpAnyL P md ops Q S L fuel (listed.setIfInBounds i true) a' w') a w
theorem wpAny_of_L : ∀ (fuel : Nat) (listed : Array Bool) (a : Act) (w : World), wpAnyL P md ops Q S L fuel listed a w → wpAny P md ops Q fuel listed a w
  | 0, _, _, _, h => h
  | fuel + 1, _, _, _, h => ⟨h.1, fun i hi => wpOp_mono (fun a' w' h' => wpAny_of_L fuel _ a' w' h'.2) (h.2 i hi)⟩
theorem wpAnyL_first {i : Nat} {oi : Oper} {v : Value} (hi : ops[i]? = some oi) (hsel : ∀ (j : Nat) (o : Oper) cs b, ops[j]? = some o → o.op ≠ .select cs b)
    (hQ : ∀ c a w, Q (.panic c) (a.put oi.dst v) w → Q (.panic c) a w) (hiL : i ≠ L) (hL : ∀ o, ops[L]? = some o → ∃ e ∈ o.after, Region.binds md e = true ∧ e.on = i) :
    ∀ (fuel : Nat) (listed : Array Bool) (a : Act) (w : World),
      (∀ j oj, ops[j]? = some oj → j ≠ i → listed.getD j true = false → (∀ e ∈ oj.after, Region.binds md e = true → e.on ≠ i) → oi.apart ops oj = true) →
      listed.getD L true = false → i ∈ Region.ready md ops listed → YieldsIf P ops S oi v a → S w →
      wpAnyL P md ops Q S L fuel (listed.setIfInBounds i true) (a.put oi.dst v) w → wpAnyL P md ops Q S L (fuel + 1) listed a w := by
  intro fuel
  induction fuel with
  | zero =>
    intro listed a w _ _ hr hy hS H
    refine ⟨fun h => (by rw [h] at hr; cases hr), fun j hj => ?_⟩
    by_cases hji : j = i
    · subst hji; exact hy.wpOp hi hS ⟨.inr hS, H⟩
    · have := ready_mono hj hji
      rw [H.1] at this
      cases this
  | succ fuel ih =>
    intro listed a w hfree hl hr hy hS H
    refine ⟨fun h => (by rw [h] at hr; cases hr), fun j hj => ?_⟩
    by_cases hji : j = i
    · subst hji; exact hy.wpOp hi hS ⟨.inr hS, H⟩
    · have h1 := H.2 j (ready_mono hj hji)
      obtain ⟨hjun, oj, hoj, hall⟩ := mem_ready.1 hj
      have hnot : ∀ e ∈ oj.after, Region.binds md e = true → e.on ≠ i := fun e he hb heq => by
        have h1 := hall e he hb
        have h0 := (mem_ready.1 hr).1
        rw [heq] at h1
        rcases Nat.lt_or_ge i listed.size with h' | h'
        · simp [h'] at h0 h1; rw [h0] at h1; cases h1
        · simp [Array.getElem?_eq_none h'] at h1
      have hjL : j ≠ L := fun e => by
        subst e
        obtain ⟨e, he, hb, heq⟩ := hL oj hoj
        exact hnot e he hb heq
      have hl' : (listed.setIfInBounds j true).getD L true = false := by rw [getD_set_ne true hjL]; exact hl
      have hl2 : ((listed.setIfInBounds i true).setIfInBounds j true).getD L true = false := by rw [getD_set_ne true hjL, getD_set_ne true hiL]; exact hl
      have h2 := wpOp_putIf hoj (hfree j oj hoj hji hjun hnot) (fun cs b => hsel i oi cs b hi) (fun cs b => hsel j oj cs b hoj) hQ hy h1
      have hfree' : ∀ k ok, ops[k]? = some ok → k ≠ i → (listed.setIfInBounds j true).getD k true = false →
          (∀ e ∈ ok.after, Region.binds md e = true → e.on ≠ i) → oi.apart ops ok = true := fun k ok hk hki hun hno => by
        refine hfree k ok hk hki ?_ hno
        by_cases hjk : j = k
        · subst hjk; exact hjun
        · rw [getD_set_ne true hjk] at hun; exact hun
      refine wpOp_mono (fun a' w' h3 => ?_) h2
      have hS' : S w' := h3.2.1.resolve_left (by rw [hl2]; decide)
      refine ⟨.inr hS', ih (listed.setIfInBounds j true) a' w' hfree' hl' (ready_mono hr (Ne.symm hji)) h3.1 hS' ?_⟩
      rw [Array.setIfInBounds_comm _ _ hji]
      exact h3.2.2
/-- The last operation waits for that one. -/
def waitsFor (md : Region.Mode) (ops : Array Oper) (L i : Nat) : Bool := match ops[L]? with
  | some o => o.after.any fun e => Region.binds md e && e.on == i
  | none => true
theorem waitsFor_spec {i : Nat} (h : waitsFor md ops L i = true) : ∀ o, ops[L]? = some o → ∃ e ∈ o.after, Region.binds md e = true ∧ e.on = i := by
  intro o ho
  unfold waitsFor at h
  rw [ho] at h
  simp only [Array.any_eq_true'] at h
  obtain ⟨e, he, hb⟩ := h
  rw [Bool.and_eq_true] at hb
  exact ⟨e, he, hb.1, by simpa using hb.2⟩
/-- An operation that is wanted, and reads only, is taken first: what it leaves stands in its slot. -/
theorem takeL {i k : Nat} {oi : Oper} {v : Value} {fuel : Nat} {listed : Array Bool} {a : Act} {w : World} (hi : ops[i]? = some oi) (hk : oi.dst = some k)
    (hs : Region.noSelect ops = true) (hf : Region.free md ops listed i = true) (hr : (Region.ready md ops listed).contains i = true)
    (hQ : ∀ c a w, Q (.panic c) (a.put oi.dst v) w → Q (.panic c) a w) (hiL : (i != L) = true) (hL : waitsFor md ops L i = true) (hl : listed.getD L true = false) (hw : Region.wanted oi (yielded ops a.tmps) = true)
    (hy : ∀ w, S w → (execOp a.eval oi).run P w = .ok (.value v) w) (hS : S w)
    (h : wpAnyL P md ops Q S L fuel (listed.setIfInBounds i true) { a with tmps := a.tmps.setIfInBounds k v } w) : wpAnyL P md ops Q S L (fuel + 1) listed a w :=
  wpAnyL_first hi (Region.noSelect_spec hs) hQ (by simpa using hiL) (waitsFor_spec hL) fuel listed a w (Region.free_spec hi hf) hl (by simpa using hr) (Or.inl ⟨hw, hy⟩) hS (by rw [hk]; exact h)
/-- An operation that is the only one that may come up. -/
theorem nextL {i : Nat} {o : Oper} {fuel : Nat} {listed : Array Bool} {a : Act} {w : World} (hr : Region.ready md ops listed = [i]) (ho : ops[i]? = some o) (hw : Region.wanted o (yielded ops a.tmps) = true)
    (h : ∀ K : Act → World → Prop, Shut (∀ a w, ((listed.setIfInBounds i true).getD L true = true ∨ S w) → wpAnyL P md ops Q S L fuel (listed.setIfInBounds i true) a w → K a w) → Oper.wp P o a w K Q) : wpAnyL P md ops Q S L (fuel + 1) listed a w := by
  refine ⟨fun h0 => (by rw [hr] at h0; cases h0), fun j hj => ?_⟩
  rw [hr] at hj
  obtain rfl : j = i := by simpa using hj
  exact wpOp_step ho fun K' hK => by
    rw [if_pos hw]
    exact h K' fun a w h1 h2 => hK a w ⟨h1, h2⟩
theorem doneL {listed : Array Bool} {a : Act} {w : World} (hr : Region.ready md ops listed = []) (h : Q .normal a w) : ∀ fuel, wpAnyL P md ops Q S L fuel listed a w
  | 0 => ⟨hr, h⟩
  | _ + 1 => ⟨fun _ => h, by rw [hr]; simp⟩
theorem regionL (S : World → Prop) (L : Nat) {id : Nat} {a : Act} {w : World} (hm : P.follows .mixedOrders = true) (hS : S w.drew)
    (h : S w.drew → wpAnyL P .any ops Q S L ops.size (Array.replicate ops.size false) a w.drew) : (Code.region id ops true).wp P Q a w :=
  wp_region_any hm (wpAny_of_L _ _ _ _ (h hS))
end
/-- What a load of a whole variable yields, by itself. -/
theorem exec_load_row {P : Program} (o : Oper) {a : Act} {w : World} (ty : TypeId) (x : Operand) (ho : o.op = .load ty x) (g : Nat) (hx : a.eval x = .pointer (some ⟨g, 0, none⟩)) (t : TypeId) (cs : Array Value) (fr : Nat × Nat) (d : TypeDesc) (hg : w.heap[g]? = some (.cells cs t fr))
    (hu : P.underlying ty = some d) (hd : (match d with | .struct _ | .array _ _ => true | _ => false) = true) (hi : (P.info? ty).map (·.size) = some cs.size) : (execOp a.eval o).run P w = .ok (.value (.agg cs)) w := by
  unfold execOp
  simp only [ho, hx, Instr.loadAt, Instr.sureAddr, Sem.run_bind, Sem.run_pure, Result.andThen_ok, run_loadVar_row w g t ty cs fr d hg hu hd hi]
end Go.Proofs.YtakceggnadagmaaGreatDoor

namespace Go.Proofs.YtakceggnadagmaaGreatDoor
open Go Go.RowKit GlyphMath LexMath TreeMath ParseMath

theorem below_drewA (w : World) : Below w.heap.size w w.drew := ⟨rfl, rfl, rfl, Nat.le_refl _, fun _ _ => rfl⟩
/-- A tree in a variable in a loop: R is the result's block, Bx the variable's. -/
structure AdO (w0 w wr : World) (X Bx : Nat) (c : List Value) (n : Tr) (F : Nat → Prop) (S : PS) : Prop where
  box : wr.heap[Bx]? = some (.cells c.toArray 56 (0, 0))
  cel : Cel 8 c
  tree : Stays w0 wr F fun W => TrC W c n
  far : ∀ k, F k → w.heap.size < k ∧ k < wr.heap.size ∧ k ≠ Bx
  base : w.heap.size < Bx
  pr : Pr w0 wr X S
  zero : wr.heap[w.heap.size]? = some ZN
  kept : Kept (fun k => k = X) w wr
theorem AdO.step {w0 w wr w1 : World} {X Bx : Nat} {c : List Value} {n : Tr} {F : Nat → Prop} {S S' : PS} (h : AdO w0 w wr X Bx c n F S) (hX : X < w.heap.size) (hs : PStep w0 wr w1 X S') : AdO w0 w w1 X Bx c n F S' :=
  ⟨hs.2.heap h.box (by have := h.base; omega), h.cel, h.tree.same fun k hk => hs.2.block k (h.far k hk).2.1 (by have := (h.far k hk).1; omega), fun k hk => ⟨(h.far k hk).1, Nat.lt_of_lt_of_le (h.far k hk).2.1 hs.2.size, (h.far k hk).2.2⟩, h.base, hs.1, hs.2.heap h.zero (by omega), h.kept.on hs.2⟩
theorem AdO.new {w0 w wr w1 : World} {X Bx : Nat} {c : List Value} {n : Tr} {F : Nat → Prop} {S : PS} (h : AdO w0 w wr X Bx c n F S) (hX : X < w.heap.size) (hb : Below wr.heap.size wr w1) : AdO w0 w w1 X Bx c n F S := h.step hX ⟨h.pr.new hb, Kept.of_below hb⟩
/-- Two trees have become one. -/
theorem AdO.join {w0 w w4 w5 w6 : World} {X Bx : Nat} {c c5 : List Value} {n t : Tr} {F : Nat → Prop} {S : PS} (h : AdO w0 w w5 X Bx c n F S) (hX : X < w.heap.size) (hX0 : w0.heap.size ≤ X) (hc5 : Cel 8 c5) (h5 : NewAt w0 w5 w4.heap.size fun W => TrC W c5 t) (hw4 : w4.heap.size ≤ w5.heap.size) (hB4 : Bx < w4.heap.size) (op : List UInt8)
    (h6 : Below (w5.alloc (.cells (c ++ c5).toArray 56)).heap.size (w5.alloc (.cells (c ++ c5).toArray 56)) w6) :
    ∃ F', AdO w0 w (w6.setRow Bx (ofC (T op) (.slice (some ⟨w5.heap.size, 0, none⟩) 2 2)).toArray) X Bx (ofC (T op) (.slice (some ⟨w5.heap.size, 0, none⟩) 2 2)) (trOf op [n, t]) F' S := by
  obtain ⟨F5, f1, f2⟩ := h5
  have hbase := h.base
  have hb : ∀ k, F k ∨ F5 k → w.heap.size + 1 ≤ k ∧ k < w5.heap.size := fun k hk => hk.elim (fun hk => ⟨(h.far k hk).1, (h.far k hk).2.1⟩) fun hk => ⟨by have := (f1 k hk).1; omega, (f1 k hk).2⟩
  have hr : Kids w0 _ _ _ _ _ _ := RowG.two (e := 56) (B := w.heap.size + 1) h.cel hc5 h.tree f2 hb (by omega)
  have ht := of_stays hr (by simp [maxLen]) op
  have hx : Kept (fun _ => False) w5 w6 := (Kept.of_below (below_new _ _)).on (Kept.of_below h6)
  have hk := kept_row0 w6 Bx (ofC (T op) (.slice (some ⟨w5.heap.size, 0, none⟩) 2 2)).toArray
  have hsz : (w5.alloc (.cells (c ++ c5).toArray 56)).heap.size = w5.heap.size + 1 := by simp
  have hfar : ∀ k, ((F k ∨ F5 k) ∨ (Value.slice (some ⟨w5.heap.size, 0, none⟩) 2 2).ownBlock = some k) → w.heap.size < k ∧ k < w5.heap.size + 1 ∧ k ≠ Bx := fun k hk => by
    rcases hk with (hk | hk) | hk
    · have := h.far k hk; exact ⟨this.1, by omega, this.2.2⟩
    · have := f1 k hk; exact ⟨by omega, by omega, by omega⟩
    · have e : w5.heap.size = k := by simpa [Value.ownBlock] using hk
      exact ⟨by omega, by omega, by omega⟩
  have h6s := h6.size
  refine ⟨_, ⟨setRow_heap w6 Bx _ _ _ (0, 0) (hx.heap h.box (fun h => h)), ofC_cel _ _ _ _, (ht.same fun k hk' => (hk.block k (by have := (hfar k hk').2.1; omega) (hfar k hk').2.2).trans (h6.block k (by have := (hfar k hk').2.1; omega))), fun k hk' => ⟨(hfar k hk').1, Nat.lt_of_lt_of_le (hfar k hk').2.1 (by rw [setRow_size]; omega), (hfar k hk').2.2⟩, h.base, (h.pr.kept hx (fun h => h) (fun _ h => h.elim)).kept hk (by omega) (fun k e => by omega), hk.heap (hx.heap h.zero (fun h => h)) (by omega), (h.kept.trans hx (fun _ h => h.elim)).trans hk fun i hi => .inr (by omega)⟩⟩
theorem andorL_and {cmd : Do} {f : Nat} {n : Tr} {S : PS} (h : S.is [38, 38] = true) : andorL cmd (f + 1) n S = andorL cmd f (trOf [97, 110, 100] [n, (pipeM cmd S.take.lines).1]) (pipeM cmd S.take.lines).2 := by rw [andorL, if_pos h]
theorem andorL_or {cmd : Do} {f : Nat} {n : Tr} {S : PS} (h1 : S.is [38, 38] = false) (h : S.is [124, 124] = true) : andorL cmd (f + 1) n S = andorL cmd f (trOf [111, 114] [n, (pipeM cmd S.take.lines).1]) (pipeM cmd S.take.lines).2 := by rw [andorL, if_neg (by rw [h1]; decide), if_pos h]
theorem andorL_end {cmd : Do} {f : Nat} {n : Tr} {S : PS} (h1 : S.is [38, 38] = false) (h : S.is [124, 124] = false) : andorL cmd (f + 1) n S = (n, S) := by rw [andorL, if_neg (by rw [h1]; decide), if_neg (by rw [h]; decide)]
theorem pipe_less {cmd : Do} (hc : DoOk cmd) {S : PS} (h : GoodS S) {s : List UInt8} (hs : s ≠ []) (hi : S.is s = true) : (pipeM cmd S.take.lines).2.ts.length < S.ts.length := pipe_lt (to_pipe hc) h hs hi

set_option maxHeartbeats 8000000 in
set_option maxRecDepth 4000 in
theorem pandor_any {w0 : World} {cmd : Do} {d : Nat} (hok : DoOk cmd) (hc : CallDo w0 103 (pipeM cmd) d) : CallDo w0 77 (andorM cmd) d := by
  intro w X S h
  have HB := Lib.hid (below_new w)
  have HX := Lib.hid h.base
  have HP1 := Lib.hid (h.new (below_new w ZN))
  have HG1 := Lib.hid (to_pipe hok S h.good)
  have HM := Lib.hid (show andorM cmd S = andorL cmd (pipeM cmd S).2.ts.length (pipeM cmd S).1 (pipeM cmd S).2 from rfl)
  obtain ⟨q, hq⟩ : ∃ q, andorL cmd (pipeM cmd S).2.ts.length (pipeM cmd S).1 (pipeM cmd S).2 = q := ⟨_, rfl⟩
  rw [hq] at HM
  have HQ := Lib.hid hq
  have HC := Lib.hid hc
  obtain ⟨D, hD⟩ : ∃ D : Int, (d : Int) = D := ⟨_, rfl⟩
  have HD := Lib.hid hD
  rw [hD]
  clear h hq hc hD
  go_enter Tryz.func77, Tryz.ntmps77
  go_wp2_with (first
    | (go_at_call 103; rw [← HD.out]; refine (HC.out _ X S HP1.out).mono ?_; rintro en w2 ⟨c1, rfl, hcel, hnew, hs2⟩; rw [HD.out]; have HS2 := Lib.hid (And.intro hcel (And.intro hnew (And.intro hs2 (hs2.2.heap (heap_alloc_new w ZN) (by have := HX.out; omega))))); clear hcel hnew hs2)
    | (refine wpList_store_row (by rfl) 56 (.tmp 5) (.tmp 9) (by rfl) w2.heap.size c1.toArray (by rfl) (by rfl) 56 zeroN.toArray (heap_alloc_new w2 _) (by rw [node_info]; simp [HS2.out.1.1]) (by simp [HS2.out.1.1, zeroN, ofC]) (all_oneCell_toArray HS2.out.1.2) ?_; rw [World.setRow_alloc_new]))
  have hA0 : ∃ F, AdO w0 w (w2.alloc (.cells c1.toArray 56)) X w2.heap.size c1 (pipeM cmd S).1 F (pipeM cmd S).2 := by
    obtain ⟨hcel, ⟨F, f1, f2⟩, hs2, hz⟩ := HS2.out
    have hzl := (Array.getElem?_eq_some_iff.1 hz).1
    have hsz : (w.alloc ZN).heap.size = w.heap.size + 1 := by simp
    have hw2 := hs2.2.size
    rw [hsz] at hw2 f1
    refine ⟨F, heap_alloc_new w2 _, hcel, f2.same fun k hk => Below.heap_alloc _ _ _ (f1 k hk).2, fun k hk => ⟨(f1 k hk).1, by have := (f1 k hk).2; rw [World.size_alloc]; omega, by have := (f1 k hk).2; omega⟩, by omega, hs2.1.new (below_new _ _), (Below.heap_alloc _ _ _ hzl).trans hz, ((Kept.of_below (HB.out ZN)).on hs2.2).on (Kept.of_below (below_new _ _))⟩
  obtain ⟨F0, hA0⟩ := hA0
  have HA0 := Lib.hid hA0
  obtain ⟨Bx, hBx⟩ : ∃ Bx, w2.heap.size = Bx := ⟨_, rfl⟩
  rw [hBx] at HA0 ⊢
  clear hA0 hBx
  simp only [Act.put]
  go_loopw [6] (fun _ wr => ∃ f c n F S', AdO w0 w wr X Bx c n F S' ∧ andorL cmd f n S' = q ∧ S'.ts.length ≤ f) (fun _ wr => psLen wr X)
  case atStart => exact ⟨_, _, _, _, _, HA0.out, HQ.out, Nat.le_refl _⟩
  case round =>
    obtain ⟨f, c, n, F, S', hA, hm, hf⟩ := hrel
    have hpos := hA.pr.good.pos
    obtain ⟨f, rfl⟩ : ∃ g, f = g + 1 := ⟨f - 1, by omega⟩
    have HS := Lib.hid (And.intro hA (And.intro hm hf))
    have HN := Lib.hid (pnext_any hA.pr)
    have HBW := Lib.hid hA.pr.below
    clear hA hm hf hpos
    have HI0 := Lib.hid (show (∀ s, S'.is s = (textK S'.hd == s)) from fun _ => rfl)
    obtain ⟨t, ht⟩ : ∃ t, S'.hd = t := ⟨_, rfl⟩
    rw [ht] at HN HI0
    clear ht
    have HTX := Lib.hid (fun W (hW : Below w0.heap.size w0 W) p k (hu : PsAt w0 (.slice p t.word.length k) t.word) => text_any hW t p k hu)
    cases h1 : S'.is [38, 38] with
    | true =>
      have HI := Lib.hid h1
      have hR : textK t = [38, 38] := by have := HI0.out [38, 38]; rw [h1] at this; simpa using this.symm
      rw [hR] at HTX
      clear h1 hR
      go_wp2_with (first
          | (go_at_call 45; refine HN.out.mono ?_; rintro en w3 ⟨p, k, rfl, hu, hb3⟩; have HC3 := Lib.hid (HTX.out _ (HBW.out.trans (hb3.mono HBW.out.size)) p k hu); have HA3 := Lib.hid (HS.out.1.new HX.out.2 hb3); clear hu hb3)
          | (go_at_call 104; refine HC3.out.mono ?_; rintro en w4 ⟨rfl, hb4⟩; have HA4 := Lib.hid (HA3.out.new HX.out.2 hb4); clear hb4)
          | (go_at_call 105; refine (ptake_any HA4.out.pr).mono ?_; rintro en w5 ⟨p5, k5, rfl, -, hs⟩; have HA5 := Lib.hid (HA4.out.step HX.out.2 hs); clear hs)
          | (go_at_call 76; refine (plines_any HA5.out.pr).mono ?_; rintro en w6 ⟨rfl, hs⟩; have HA6 := Lib.hid (HA5.out.step HX.out.2 hs); clear hs))
      refine regionL (S := (fun W => W.heap[Bx]? = some (.cells c.toArray 56 (0, 0)))) (L := 7) (by kernel_rfl) ?_ (fun hHeld => ?_)
      · exact HA6.out.box
      refine takeL (i := 0) (k := 22) (v := ?_) rfl (by kernel_rfl) (by kernel_rfl) (by kernel_rfl) (by kernel_rfl) (fun _ _ _ h => h) (by kernel_rfl) (by kernel_rfl) (by kernel_rfl) (by rfl) ?_ (by assumption) ?_
      rotate_left
      · intro w hSw; (try dsimp only at hSw); go_simp <;> (with_reducible rfl)
      simp only [List.setIfInBounds_toArray, List.set_cons_zero, List.set_cons_succ]
      refine takeL (i := 1) (k := 23) (v := .agg c.toArray) rfl (by kernel_rfl) (by kernel_rfl) (by kernel_rfl) (by kernel_rfl) (fun _ _ _ h => h) (by kernel_rfl) (by kernel_rfl) (by kernel_rfl) (by rfl) ?_ (by assumption) ?_
      · intro w hSw; exact exec_load_row _ 56 (.tmp 5) rfl Bx rfl 56 c.toArray (0, 0) _ hSw Tryz.underlying56 rfl (by rw [node_info]; simp [HA6.out.cel.1])
      simp only [List.setIfInBounds_toArray, List.set_cons_zero, List.set_cons_succ]
      refine takeL (i := 2) (k := 24) (v := ?_) rfl (by kernel_rfl) (by kernel_rfl) (by kernel_rfl) (by kernel_rfl) (fun _ _ _ h => h) (by kernel_rfl) (by kernel_rfl) (by kernel_rfl) (by rfl) ?_ (by assumption) ?_
      rotate_left
      · intro w hSw; (try dsimp only at hSw); go_simp <;> (with_reducible rfl)
      simp only [List.setIfInBounds_toArray, List.set_cons_zero, List.set_cons_succ]
      refine takeL (i := 3) (k := 25) (v := ?_) rfl (by kernel_rfl) (by kernel_rfl) (by kernel_rfl) (by kernel_rfl) (fun _ _ _ h => h) (by kernel_rfl) (by kernel_rfl) (by kernel_rfl) (by rfl) ?_ (by assumption) ?_
      rotate_left
      · intro w hSw; (try dsimp only at hSw); go_simp <;> (with_reducible rfl)
      simp only [List.setIfInBounds_toArray, List.set_cons_zero, List.set_cons_succ]
      refine nextL (i := 4) (by kernel_rfl) rfl (by kernel_rfl) (fun K hK => ?_)
      go_simp
      go_wp2_with (go_at_call 103; rw [← HD.out]; refine (HC.out _ X S'.take.lines (HA6.out.pr.kept (D := fun _ => False) (Kept.of_below (below_drewA w6)) (fun h => h) (fun _ h => h.elim))).mono ?_; rintro en w7 ⟨c7, rfl, hcel, hnew, hs⟩; rw [HD.out]; have HA7 := Lib.hid ((HA6.out.new HX.out.2 (below_drewA w6)).step HX.out.2 hs); have HS7 := Lib.hid (And.intro hcel (And.intro hnew hs.2.size)); clear hcel hnew hs)
      refine hK.out _ _ ?_ ?_
      · exact .inr HA7.out.box
      clear hK K
      refine nextL (i := 5) (by kernel_rfl) rfl (by kernel_rfl) (fun K hK => ?_)
      refine wp_two elNode (.tmp 23) (.tmp 26) rfl _ _ c c7 rfl rfl HA7.out.cel HS7.out.1 rfl rfl ?_
      refine hK.out _ _ ?_ ?_
      · exact .inr ((Below.heap_alloc w7 _ _ (Array.getElem?_eq_some_iff.1 HA7.out.box).1).trans HA7.out.box)
      clear hK K
      simp only [Act.put, List.getElem_toArray, List.getElem_cons_succ, List.getElem_cons_zero, List.setIfInBounds_toArray, List.set_cons_zero, List.set_cons_succ]
      refine nextL (i := 6) (by kernel_rfl) rfl (by kernel_rfl) (fun K hK => ?_)
      go_simp
      go_wp2_with (go_at_call 106; refine (of_any _ _ _ _ _).mono ?_; rintro en w8 ⟨rfl, hb8⟩; have HB8 := Lib.hid (And.intro hb8 ((hb8.block Bx (by rw [World.size_alloc]; have := (Array.getElem?_eq_some_iff.1 HA7.out.box).1; omega)).trans ((Below.heap_alloc w7 _ _ (Array.getElem?_eq_some_iff.1 HA7.out.box).1).trans HA7.out.box))); clear hb8)
      refine hK.out _ _ ?_ ?_
      · exact .inr HB8.out.2
      clear hK K
      refine nextL (i := 7) (by kernel_rfl) rfl (by kernel_rfl) (fun K hK => ?_)
      refine wp_store_row 56 (.tmp 5) (.tmp 28) rfl Bx (ofC ⟨#[97, 110, 100]⟩ (.slice (some ⟨w7.heap.size, 0, none⟩) 2 2)).toArray rfl rfl 56 c.toArray HB8.out.2 (by rw [node_info]; rfl) (by simp [HA7.out.cel.1, ofC]) (all_oneCell_toArray (ofC_cel _ _ _ _).2) ?_
      refine hK.out _ _ ?_ ?_
      · exact .inl (by kernel_rfl)
      clear hK K
      simp only [Act.put, List.getElem_toArray, List.getElem_cons_succ, List.getElem_cons_zero]
      refine doneL (by kernel_rfl) ?_ _
      obtain ⟨F', hJ⟩ := HA7.out.join HX.out.2 HX.out.1 HS7.out.1 HS7.out.2.1 HS7.out.2.2 (by have := (Array.getElem?_eq_some_iff.1 HA6.out.box).1; exact this) [97, 110, 100] HB8.out.1
      have hlt := pipe_less hok HS.out.1.pr.good (by decide) HI.out
      go_wp2_with fail
      go_roundw
      case rel => exact ⟨f, _, _, _, _, hJ, by rw [← andorL_and HI.out]; exact HS.out.2.1, by have := HS.out.2.2; omega⟩
      case measure => rw [hJ.pr.len, HS.out.1.pr.len]; exact hlt
    | false =>
      have HI1 := Lib.hid h1
      cases h2 : S'.is [124, 124] with
      | true =>
        have HI := Lib.hid h2
        have hR : textK t = [124, 124] := by have := HI0.out [124, 124]; rw [h2] at this; simpa using this.symm
        rw [hR] at HTX
        clear h1 h2 hR
        go_wp2_with (first
            | (go_at_call 45; refine HN.out.mono ?_; rintro en w3 ⟨p, k, rfl, hu, hb3⟩; have HC3 := Lib.hid (HTX.out _ (HBW.out.trans (hb3.mono HBW.out.size)) p k hu); have HA3 := Lib.hid (HS.out.1.new HX.out.2 hb3); clear hu hb3)
            | (go_at_call 104; refine HC3.out.mono ?_; rintro en w4 ⟨rfl, hb4⟩; have HA4 := Lib.hid (HA3.out.new HX.out.2 hb4); clear hb4)
            | (go_at_call 105; refine (ptake_any HA4.out.pr).mono ?_; rintro en w5 ⟨p5, k5, rfl, -, hs⟩; have HA5 := Lib.hid (HA4.out.step HX.out.2 hs); clear hs)
            | (go_at_call 76; refine (plines_any HA5.out.pr).mono ?_; rintro en w6 ⟨rfl, hs⟩; have HA6 := Lib.hid (HA5.out.step HX.out.2 hs); clear hs))
        refine regionL (S := (fun W => W.heap[Bx]? = some (.cells c.toArray 56 (0, 0)))) (L := 7) (by kernel_rfl) ?_ (fun hHeld => ?_)
        · exact HA6.out.box
        refine takeL (i := 0) (k := 22) (v := ?_) rfl (by kernel_rfl) (by kernel_rfl) (by kernel_rfl) (by kernel_rfl) (fun _ _ _ h => h) (by kernel_rfl) (by kernel_rfl) (by kernel_rfl) (by rfl) ?_ (by assumption) ?_
        rotate_left
        · intro w hSw; (try dsimp only at hSw); go_simp <;> (with_reducible rfl)
        simp only [List.setIfInBounds_toArray, List.set_cons_zero, List.set_cons_succ]
        refine takeL (i := 1) (k := 23) (v := .agg c.toArray) rfl (by kernel_rfl) (by kernel_rfl) (by kernel_rfl) (by kernel_rfl) (fun _ _ _ h => h) (by kernel_rfl) (by kernel_rfl) (by kernel_rfl) (by rfl) ?_ (by assumption) ?_
        · intro w hSw; exact exec_load_row _ 56 (.tmp 5) rfl Bx rfl 56 c.toArray (0, 0) _ hSw Tryz.underlying56 rfl (by rw [node_info]; simp [HA6.out.cel.1])
        simp only [List.setIfInBounds_toArray, List.set_cons_zero, List.set_cons_succ]
        refine takeL (i := 2) (k := 24) (v := ?_) rfl (by kernel_rfl) (by kernel_rfl) (by kernel_rfl) (by kernel_rfl) (fun _ _ _ h => h) (by kernel_rfl) (by kernel_rfl) (by kernel_rfl) (by rfl) ?_ (by assumption) ?_
        rotate_left
        · intro w hSw; (try dsimp only at hSw); go_simp <;> (with_reducible rfl)
        simp only [List.setIfInBounds_toArray, List.set_cons_zero, List.set_cons_succ]
        refine takeL (i := 3) (k := 25) (v := ?_) rfl (by kernel_rfl) (by kernel_rfl) (by kernel_rfl) (by kernel_rfl) (fun _ _ _ h => h) (by kernel_rfl) (by kernel_rfl) (by kernel_rfl) (by rfl) ?_ (by assumption) ?_
        rotate_left
        · intro w hSw; (try dsimp only at hSw); go_simp <;> (with_reducible rfl)
        simp only [List.setIfInBounds_toArray, List.set_cons_zero, List.set_cons_succ]
        refine nextL (i := 4) (by kernel_rfl) rfl (by kernel_rfl) (fun K hK => ?_)
        go_simp
        go_wp2_with (go_at_call 103; rw [← HD.out]; refine (HC.out _ X S'.take.lines (HA6.out.pr.kept (D := fun _ => False) (Kept.of_below (below_drewA w6)) (fun h => h) (fun _ h => h.elim))).mono ?_; rintro en w7 ⟨c7, rfl, hcel, hnew, hs⟩; rw [HD.out]; have HA7 := Lib.hid ((HA6.out.new HX.out.2 (below_drewA w6)).step HX.out.2 hs); have HS7 := Lib.hid (And.intro hcel (And.intro hnew hs.2.size)); clear hcel hnew hs)
        refine hK.out _ _ ?_ ?_
        · exact .inr HA7.out.box
        clear hK K
        refine nextL (i := 5) (by kernel_rfl) rfl (by kernel_rfl) (fun K hK => ?_)
        refine wp_two elNode (.tmp 23) (.tmp 26) rfl _ _ c c7 rfl rfl HA7.out.cel HS7.out.1 rfl rfl ?_
        refine hK.out _ _ ?_ ?_
        · exact .inr ((Below.heap_alloc w7 _ _ (Array.getElem?_eq_some_iff.1 HA7.out.box).1).trans HA7.out.box)
        clear hK K
        simp only [Act.put, List.getElem_toArray, List.getElem_cons_succ, List.getElem_cons_zero, List.setIfInBounds_toArray, List.set_cons_zero, List.set_cons_succ]
        refine nextL (i := 6) (by kernel_rfl) rfl (by kernel_rfl) (fun K hK => ?_)
        go_simp
        go_wp2_with (go_at_call 106; refine (of_any _ _ _ _ _).mono ?_; rintro en w8 ⟨rfl, hb8⟩; have HB8 := Lib.hid (And.intro hb8 ((hb8.block Bx (by rw [World.size_alloc]; have := (Array.getElem?_eq_some_iff.1 HA7.out.box).1; omega)).trans ((Below.heap_alloc w7 _ _ (Array.getElem?_eq_some_iff.1 HA7.out.box).1).trans HA7.out.box))); clear hb8)
        refine hK.out _ _ ?_ ?_
        · exact .inr HB8.out.2
        clear hK K
        refine nextL (i := 7) (by kernel_rfl) rfl (by kernel_rfl) (fun K hK => ?_)
        refine wp_store_row 56 (.tmp 5) (.tmp 28) rfl Bx (ofC ⟨#[111, 114]⟩ (.slice (some ⟨w7.heap.size, 0, none⟩) 2 2)).toArray rfl rfl 56 c.toArray HB8.out.2 (by rw [node_info]; rfl) (by simp [HA7.out.cel.1, ofC]) (all_oneCell_toArray (ofC_cel _ _ _ _).2) ?_
        refine hK.out _ _ ?_ ?_
        · exact .inl (by kernel_rfl)
        clear hK K
        simp only [Act.put, List.getElem_toArray, List.getElem_cons_succ, List.getElem_cons_zero]
        refine doneL (by kernel_rfl) ?_ _
        obtain ⟨F', hJ⟩ := HA7.out.join HX.out.2 HX.out.1 HS7.out.1 HS7.out.2.1 HS7.out.2.2 (by have := (Array.getElem?_eq_some_iff.1 HA6.out.box).1; exact this) [111, 114] HB8.out.1
        have hlt := pipe_less hok HS.out.1.pr.good (by decide) HI.out
        go_wp2_with fail
        go_roundw
        case rel => exact ⟨f, _, _, _, _, hJ, by rw [← andorL_or HI1.out HI.out]; exact HS.out.2.1, by have := HS.out.2.2; omega⟩
        case measure => rw [hJ.pr.len, HS.out.1.pr.len]; exact hlt
      | false =>
        have HI2 := Lib.hid h2
        obtain ⟨R, hR⟩ : ∃ R, T (textK t) = R := ⟨_, rfl⟩
        have hl : textK t = R.toList := by rw [← hR, Lib.toList_data]
        have q1 : (R.toList == [38, 38]) = false := by rw [← hl, ← HI0.out]; exact h1
        have q2 : (R.toList == [124, 124]) = false := by rw [← hl, ← HI0.out]; exact h2
        rw [hR] at HTX
        clear h1 h2 hR hl
        have HE := Lib.hid (show andorM cmd S = (n, S') from by rw [HM.out, ← HS.out.2.1, andorL_end HI1.out HI2.out])
        go_wp2_with (first
        | (go_at_call 45; refine HN.out.mono ?_; rintro en w3 ⟨p, k, rfl, hu, hb3⟩; have HC3 := Lib.hid (HTX.out _ (HBW.out.trans (hb3.mono HBW.out.size)) p k hu); have HA3 := Lib.hid (HS.out.1.new HX.out.2 hb3); clear hu hb3)
        | (go_at_call 104; refine HC3.out.mono ?_; rintro en w4 ⟨rfl, hb4⟩; have HA4 := Lib.hid (HA3.out.new HX.out.2 hb4); clear hb4)
        | (refine wpList_load_row (by rfl) 56 (.tmp 5) (by rfl) Bx (by rfl) 56 c.toArray (0, 0) _ HA4.out.box Tryz.underlying56 rfl (by rw [node_info]; simp [HA4.out.cel.1]) ?_)
        | (refine wpList_store_row (by rfl) 56 (.tmp 4) (.tmp 13) (by rfl) w.heap.size c.toArray (by rfl) (by rfl) 56 zeroN.toArray HA4.out.zero (by rw [node_info]; simp [HA4.out.cel.1]) (by simp [HA4.out.cel.1, zeroN, ofC]) (all_oneCell_toArray HA4.out.cel.2) ?_))
        (try simp only [Exit.inBlock, Exit.then])
        have hz := setRow_heap w4 w.heap.size zeroN.toArray c.toArray 56 (0, 0) HA4.out.zero
        refine bodyPost_ret (ret_tree rfl hz HA4.out.cel rfl) rfl ?_
        rw [HE.out]
        have hk := kept_row0 w4 w.heap.size c.toArray
        have hx := HX.out
        refine ⟨c, rfl, HA4.out.cel, ⟨F, fun k hk' => ⟨Nat.le_of_lt (HA4.out.far k hk').1, by rw [setRow_size]; exact (HA4.out.far k hk').2.1⟩, HA4.out.tree.same fun k hk' => hk.block k (HA4.out.far k hk').2.1 (by have := (HA4.out.far k hk').1; omega)⟩, HA4.out.pr.kept hk (by omega) (fun i hi => by omega), HA4.out.kept.trans hk fun i hi => .inr (by omega)⟩
end Go.Proofs.YtakceggnadagmaaGreatDoor
