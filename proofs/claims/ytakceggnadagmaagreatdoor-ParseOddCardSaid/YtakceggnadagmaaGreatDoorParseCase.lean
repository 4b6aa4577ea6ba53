/-
  Proved: the contract of a parser's choice, of whatever commands. Conditions: the reader lies in memory.
-/
import Derived.Test.YtakceggnadagmaaGreatDoorParseEach
namespace Go.Proofs.YtakceggnadagmaaGreatDoor
open Go Go.RowKit GlyphMath LexMath TreeMath ParseMath

/-- Two rows beside one another: one is pushed, the other is not touched. -/
theorem ap_push {a a' b : Value} {Fb : Nat → Prop} {n : Nat} (hab : ∀ k, (Fb k ∨ b.ownBlock = some k) → a.ownBlock ≠ some k) (hb : ∀ k, (Fb k ∨ b.ownBlock = some k) → k < n) (hat : a'.ownBlock = a.ownBlock ∨ ∀ k, a'.ownBlock = some k → n ≤ k) : ∀ k, (Fb k ∨ b.ownBlock = some k) → a'.ownBlock ≠ some k := fun k hk e => by
  rcases hat with h | h
  · exact hab k hk (h ▸ e)
  · have := h k e; have := hb k hk; omega
theorem ap_pushed {a a' b : Value} {Fa Fa' : Nat → Prop} {C n : Nat} (hba : ∀ k, (Fa k ∨ a.ownBlock = some k) → b.ownBlock ≠ some k) (hF : ∀ k, Fa' k → Fa k ∨ (C ≤ k ∧ k < n)) (hb : ∀ k, b.ownBlock = some k → k < C ∧ k < n) (hat : a'.ownBlock = a.ownBlock ∨ ∀ k, a'.ownBlock = some k → n ≤ k) : ∀ k, (Fa' k ∨ a'.ownBlock = some k) → b.ownBlock ≠ some k := fun k hk e => by
  rcases hk with hk | hk
  · rcases hF k hk with h | h
    · exact hba k (.inl h) e
    · have := hb k e; omega
  · rcases hat with h | h
    · exact hba k (.inr (h ▸ hk)) e
    · have := h k hk; have := hb k e; omega

abbrev PRow (w0 w : World) (B : Nat) (v : Value) (css : List (List Value)) (l : List (List (List Pt))) (F : Nat → Prop) : Prop := RowG w0 w 39 1 WordsP B v css l F
/-- A case in a variable, in a loop. -/
structure CaO (w0 w wr : World) (X Y : Nat) (pw : Option Addr) (cw : Nat) (x : List Pt) (Fw : Nat → Prop) (pp : Option Addr) (cp : Nat) (cssp : List (List Value)) (ps : List (List (List Pt))) (Fp : Nat → Prop) (pk : Option Addr) (ck : Nat) (cssk : List (List Value)) (l : List Tr) (Fk : Nat → Prop) (S : PS) : Prop where
  box : BxO w0 w wr X Y (nkC ⟨#[99, 97, 115, 101]⟩ ⟨#[]⟩ (.slice pw 1 cw) (.slice pp ps.length cp) (.slice none 0 0) (.slice none 0 0) (.slice pk l.length ck)).toArray 56 S
  words : Stays w0 wr Fw fun W => WsAt W (.slice pw 1 cw) [x]
  farw : ∀ k, Fw k → w.heap.size < k ∧ k < Y
  pats : PRow w0 wr (Y + 1) (.slice pp ps.length cp) cssp ps Fp
  kids : Kids w0 wr (Y + 1) (.slice pk l.length ck) cssk l Fk
  ap1 : ∀ k, (Fk k ∨ (Value.slice pk l.length ck).ownBlock = some k) → (Value.slice pp ps.length cp).ownBlock ≠ some k
  ap2 : ∀ k, (Fp k ∨ (Value.slice pp ps.length cp).ownBlock = some k) → (Value.slice pk l.length ck).ownBlock ≠ some k
  few1 : ps.length + S.ts.length ≤ 4002
  few2 : l.length + S.ts.length ≤ 4002
section
variable {w0 w wr w1 : World} {X Y : Nat} {pw : Option Addr} {cw : Nat} {x : List Pt} {Fw : Nat → Prop} {pp : Option Addr} {cp : Nat} {cssp : List (List Value)} {ps : List (List (List Pt))} {Fp : Nat → Prop} {pk : Option Addr} {ck : Nat} {cssk : List (List Value)} {l : List Tr} {Fk : Nat → Prop} {S S' : PS}
theorem CaO.step (h : CaO w0 w wr X Y pw cw x Fw pp cp cssp ps Fp pk ck cssk l Fk S) (hX : X < w.heap.size) (hs : PStep w0 wr w1 X S') (hl : S'.ts.length ≤ S.ts.length) : CaO w0 w w1 X Y pw cw x Fw pp cp cssp ps Fp pk ck cssk l Fk S' := by
  have hb := h.box.base
  have hlt := h.box.lt
  exact ⟨h.box.step hX hs, h.words.same fun k hk => hs.2.block k (by have := (h.farw k hk).2; omega) (by have := (h.farw k hk).1; omega), h.farw, h.pats.kept hs.2 (fun k hk => by have := (h.pats.lt k hk).1; omega), h.kids.kept hs.2 (fun k hk => by have := (h.kids.lt k hk).1; omega), h.ap1, h.ap2, by have := h.few1; omega, by have := h.few2; omega⟩
theorem CaO.new (h : CaO w0 w wr X Y pw cw x Fw pp cp cssp ps Fp pk ck cssk l Fk S) (hX : X < w.heap.size) (hb : Below wr.heap.size wr w1) : CaO w0 w w1 X Y pw cw x Fw pp cp cssp ps Fp pk ck cssk l Fk S := h.step hX ⟨h.box.pr.new hb, Kept.of_below hb⟩ (Nat.le_refl _)
theorem CaO.tree (h : CaO w0 w wr X Y pw cw x Fw pp cp cssp ps Fp pk ck cssk l Fk S) : NewAt w0 wr (w.heap.size + 1) fun W => TrC W (nkC ⟨#[99, 97, 115, 101]⟩ ⟨#[]⟩ (.slice pw 1 cw) (.slice pp ps.length cp) (.slice none 0 0) (.slice none 0 0) (.slice pk l.length ck)) (.mk { nd0 with op := [99, 97, 115, 101], words := [x], pats := ps } l) := by
  have hb := h.box.base
  have hlt := h.box.lt
  have h1 : NewAt w0 wr (w.heap.size + 1) fun W => WsAt W (.slice pw 1 cw) [x] := ⟨Fw, fun k hk => ⟨(h.farw k hk).1, by have := (h.farw k hk).2; omega⟩, h.words⟩
  have h2 := (h.pats.sl (by have := h.few1; unfold maxLen; omega)).base (C := w.heap.size + 1) (by omega)
  have h3 := (h1.and h2).imp (Q := fun W => NdC W { nd0 with op := [99, 97, 115, 101], words := [x], pats := ps } (ndC ⟨#[99, 97, 115, 101]⟩ ⟨#[]⟩ (.slice pw 1 cw) (.slice pp ps.length cp) (.slice none 0 0) (.slice none 0 0))) fun W hW => ⟨rfl, _, _, _, _, rfl, hW.1, hW.2, SlAt.nil _ _ _ _, SlAt.nil _ _ _ _⟩
  obtain ⟨F3, f1, f2⟩ := h3
  have h4 := h.kids.stays (by have := h.few2; unfold maxLen; omega) f2
  exact ⟨_, fun k hk => hk.elim (f1 k) fun hk => ⟨by have := (h.kids.lt k hk).1; omega, (h.kids.lt k hk).2⟩, h4⟩
/-- Patterns more. -/
theorem CaO.pushP {C : Nat} {pp' : Option Addr} {cp' : Nat} {cs : List Value} {y : List (List Pt)} {Fp' : Nat → Prop} (h : CaO w0 w wr X Y pw cw x Fw pp cp cssp ps Fp pk ck cssk l Fk S) (hX : X < w.heap.size) (hX0 : w0.heap.size ≤ X) (hC : ∀ k, (Value.slice pk l.length ck).ownBlock = some k → k < C)
    (hr : PRow w0 w1 (Y + 1) (.slice pp' (ps.length + 1) cp') (cssp ++ [cs]) (ps ++ [y]) Fp') (hF : ∀ k, Fp' k → Fp k ∨ (C ≤ k ∧ k < wr.heap.size)) (hat : (Value.slice pp' (ps.length + 1) cp').ownBlock = (Value.slice pp ps.length cp).ownBlock ∨ ∀ k, (Value.slice pp' (ps.length + 1) cp').ownBlock = some k → wr.heap.size ≤ k)
    (hk : Kept (fun k => (Value.slice pp ps.length cp).ownBlock = some k) wr w1) (hf : ps.length + 1 + S.ts.length ≤ 4002) :
    CaO w0 w (w1.setCell ⟨Y, 4, none⟩ (.slice pp' (ps.length + 1) cp')) X Y pw cw x Fw pp' cp' (cssp ++ [cs]) (ps ++ [y]) Fp' pk ck cssk l Fk S := by
  have hb := h.box.base
  have hlt := h.box.lt
  have hn : (ps ++ [y]).length = ps.length + 1 := by rw [List.length_append]; rfl
  have hown : ∀ k, (Value.slice pp ps.length cp).ownBlock = some k → Y < k := fun k hk => (h.pats.lt k (.inr hk)).1
  have hk2 : Kept (fun k => k = Y) w1 (w1.setCell ⟨Y, 4, none⟩ (.slice pp' (ps.length + 1) cp')) := (Kept.refl (fun k => k = Y) w1).setCell (p := ⟨Y, 4, none⟩) (.inl rfl) _
  have hw1 : wr.heap.size ≤ w1.heap.size := hk.size
  refine ⟨?_, ?_, h.farw, ?_, ?_, ?_, ?_, by rw [hn]; exact hf, h.few2⟩
  · have := (h.box.turn hX hX0 hk (fun k hk => hown k hk)).set hX hX0 4 (.slice pp' (ps.length + 1) cp')
    rw [hn]
    exact this
  · exact (h.words.same fun k hk' => hk.block k (by have := (h.farw k hk').2; omega) (fun e => by have := hown k e; have := (h.farw k hk').2; omega)).same fun k hk' => hk2.block k (by have := (h.farw k hk').2; omega) (by have := (h.farw k hk').2; omega)
  · rw [hn]
    exact hr.kept hk2 fun k hk' => by have := (hr.lt k hk').1; omega
  · exact (h.kids.kept hk fun k hk' => h.ap1 k hk').kept hk2 fun k hk' => by have := (h.kids.lt k hk').1; omega
  · rw [hn]
    exact ap_push h.ap1 (fun k hk' => (h.kids.lt k hk').2) hat
  · rw [hn]
    exact ap_pushed h.ap2 hF (fun k hk' => ⟨hC k hk', (h.kids.lt k (.inr hk')).2⟩) hat
/-- A kid more. -/
theorem CaO.pushK {C : Nat} {pk' : Option Addr} {ck' : Nat} {cs : List Value} {y : Tr} {Fk' : Nat → Prop} (h : CaO w0 w wr X Y pw cw x Fw pp cp cssp ps Fp pk ck cssk l Fk S) (hX : X < w.heap.size) (hX0 : w0.heap.size ≤ X) (hC : ∀ k, (Value.slice pp ps.length cp).ownBlock = some k → k < C)
    (hr : Kids w0 w1 (Y + 1) (.slice pk' (l.length + 1) ck') (cssk ++ [cs]) (l ++ [y]) Fk') (hF : ∀ k, Fk' k → Fk k ∨ (C ≤ k ∧ k < wr.heap.size)) (hat : (Value.slice pk' (l.length + 1) ck').ownBlock = (Value.slice pk l.length ck).ownBlock ∨ ∀ k, (Value.slice pk' (l.length + 1) ck').ownBlock = some k → wr.heap.size ≤ k)
    (hk : Kept (fun k => (Value.slice pk l.length ck).ownBlock = some k) wr w1) (hf : l.length + 1 + S.ts.length ≤ 4002) :
    CaO w0 w (w1.setCell ⟨Y, 7, none⟩ (.slice pk' (l.length + 1) ck')) X Y pw cw x Fw pp cp cssp ps Fp pk' ck' (cssk ++ [cs]) (l ++ [y]) Fk' S := by
  have hb := h.box.base
  have hlt := h.box.lt
  have hn : (l ++ [y]).length = l.length + 1 := by rw [List.length_append]; rfl
  have hown : ∀ k, (Value.slice pk l.length ck).ownBlock = some k → Y < k := fun k hk => (h.kids.lt k (.inr hk)).1
  have hk2 : Kept (fun k => k = Y) w1 (w1.setCell ⟨Y, 7, none⟩ (.slice pk' (l.length + 1) ck')) := (Kept.refl (fun k => k = Y) w1).setCell (p := ⟨Y, 7, none⟩) (.inl rfl) _
  have hw1 : wr.heap.size ≤ w1.heap.size := hk.size
  refine ⟨?_, ?_, h.farw, ?_, ?_, ?_, ?_, h.few1, by rw [hn]; exact hf⟩
  · have := (h.box.turn hX hX0 hk (fun k hk => hown k hk)).set hX hX0 7 (.slice pk' (l.length + 1) ck')
    rw [hn]
    exact this
  · exact (h.words.same fun k hk' => hk.block k (by have := (h.farw k hk').2; omega) (fun e => by have := hown k e; have := (h.farw k hk').2; omega)).same fun k hk' => hk2.block k (by have := (h.farw k hk').2; omega) (by have := (h.farw k hk').2; omega)
  · exact (h.pats.kept hk fun k hk' => h.ap2 k hk').kept hk2 fun k hk' => by have := (h.pats.lt k hk').1; omega
  · rw [hn]
    exact hr.kept hk2 fun k hk' => by have := (hr.lt k hk').1; omega
  · rw [hn]
    exact ap_pushed h.ap1 hF (fun k hk' => ⟨hC k hk', (h.pats.lt k (.inr hk')).2⟩) hat
  · rw [hn]
    exact ap_push h.ap2 (fun k hk' => (h.pats.lt k hk').2) hat
end
/-- The variable as it is made. -/
theorem case_made {w0 w w1 w2 : World} {X : Nat} {S0 S1 : PS} {x : List Pt} (hX : X < w.heap.size) (hs1 : PStep w0 (w.alloc ZN) w1 X S0) (hz1 : w1.heap[w.heap.size]? = some ZN) (hs2 : PStep w0 w1 w2 X S1) {p2 : Option Addr} {xl k2 : Nat} (hu : PsAt w0 (.slice p2 xl k2) x) :
    ∃ Fw, CaO w0 w ((w2.alloc (.cells #[.slice p2 xl k2] 70)).alloc (.cells (nkC ⟨#[99, 97, 115, 101]⟩ ⟨#[]⟩ (.slice (some ⟨w2.heap.size, 0, none⟩) 1 1) (.slice none 0 0) (.slice none 0 0) (.slice none 0 0) (.slice none 0 0)).toArray 56)) X (w2.heap.size + 1) (some ⟨w2.heap.size, 0, none⟩) 1 x Fw none 0 [] [] (fun _ => False) none 0 [] [] (fun _ => False) S1 := by
  have hl1 := (Array.getElem?_eq_some_iff.1 hz1).1
  have hz2 := hs2.2.heap hz1 (by omega)
  have hsz := hs2.2.size
  have hfew := hs2.1.good.few
  obtain ⟨F, hr, hF⟩ := RowG.one (w0 := w0) (w := w2) (e := 70) (B := w.heap.size + 1) (C := w2.heap.size) (slice_cel p2 xl k2) (word_new hu) (by omega) (by omega)
  have hs3 := hr.sl (by simp [maxLen])
  obtain ⟨Fw, f1, f2⟩ := hs3
  have hw3 : (w2.alloc (.cells #[.slice p2 xl k2] 70)).heap.size = w2.heap.size + 1 := by simp
  refine ⟨Fw, ⟨⟨by rw [← hw3]; exact heap_alloc_new _ _, by omega, (hs2.1.new (below_new _ _)).new (below_new _ _), kept_alloc2 (kept_alloc2 hz2 _) _, ((((Kept.of_below (below_new w ZN)).on hs1.2).on hs2.2).on (Kept.of_below (below_new _ _))).on (Kept.of_below (below_new _ _))⟩, (f2.same fun k hk => Below.heap_alloc _ _ _ (f1 k hk).2), fun k hk => ⟨(f1 k hk).1, by have := (f1 k hk).2; rw [List.toArray] at *; omega⟩, RowG.nil _ _ _ _ _ _, RowG.nil _ _ _ _ _ _, fun k hk => hk.elim (fun h => h.elim) (fun e => by simp [Value.ownBlock] at e), fun k hk => hk.elim (fun h => h.elim) (fun e => by simp [Value.ownBlock] at e), by simp; omega, by simp; omega⟩⟩
theorem choiceL_end {cmd : Do} {f : Nat} {ps : List (List (List Pt))} {l : List Tr} {S : PS} (h : S.is [101, 115, 97, 99] = true ∨ S.hd.kind = 3) : choiceL cmd (f + 1) ps l S = ⟨ps, l, S⟩ := by
  rw [choiceL, if_pos]
  rcases h with h | h
  · rw [h]; rfl
  · rw [h]; simp
theorem choiceL_go {cmd : Do} {f : Nat} {ps : List (List (List Pt))} {l : List Tr} {S : PS} (h1 : S.is [101, 115, 97, 99] = false) (h2 : S.hd.kind ≠ 3) : choiceL cmd (f + 1) ps l S = choiceL cmd f (ps ++ [(patsM S).1]) (l ++ [(listM cmd (patsM S).2).1]) ((listM cmd (patsM S).2).2.need [59, 59]).lines := by
  rw [choiceL, if_neg]
  rw [h1]
  simpa using h2

set_option maxHeartbeats 16000000 in
set_option maxRecDepth 4000 in
theorem pchoice_any {w0 : World} {cmd : Do} {d : Nat} (hd : d ≤ 100) (hok : DoOk cmd) (hc : CallDo w0 44 (listM cmd) (d + 1)) : CallDoR w0 188 (choiceM cmd) d := by
  intro w X S h
  have HX := Lib.hid h.base
  have HT := Lib.hid (ptake_any (h.new (below_new w ZN)))
  have HC := Lib.hid hc
  have HOK := Lib.hid hok
  have HM := Lib.hid (show choiceM cmd S = (.mk { nd0 with op := [99, 97, 115, 101], words := [S.take.word.1], pats := (choiceL cmd (S.take.word.2.need [105, 110]).lines.ts.length [] [] (S.take.word.2.need [105, 110]).lines).pats } (choiceL cmd (S.take.word.2.need [105, 110]).lines.ts.length [] [] (S.take.word.2.need [105, 110]).lines).kids, (choiceL cmd (S.take.word.2.need [105, 110]).lines.ts.length [] [] (S.take.word.2.need [105, 110]).lines).st.need [101, 115, 97, 99]) from rfl)
  have HW := Lib.hid (fun W (hW : Pr w0 W X S.take) => pword_any hW)
  obtain ⟨x, hx⟩ : ∃ x, S.take.word.1 = x := ⟨_, rfl⟩
  obtain ⟨S1, hS1⟩ : ∃ x, S.take.word.2 = x := ⟨_, rfl⟩
  rw [hx, hS1] at HM HW
  obtain ⟨xl, hxl⟩ : ∃ n, x.length = n := ⟨_, rfl⟩
  rw [hxl] at HW
  obtain ⟨q, hq⟩ : ∃ q, choiceL cmd (S1.need [105, 110]).lines.ts.length [] [] (S1.need [105, 110]).lines = q := ⟨_, rfl⟩
  rw [hq] at HM
  have HQ := Lib.hid hq
  have hwr := wrap1 hd
  obtain ⟨D, hD⟩ : ∃ D : Int, (d : Int) = D := ⟨_, rfl⟩
  rw [hD] at hwr ⊢
  obtain ⟨D1, hD1⟩ : ∃ D : Int, ((d + 1 : Nat) : Int) = D := ⟨_, rfl⟩
  have HD1 := Lib.hid hD1
  rw [hD1] at hwr
  clear h hc hok hx hS1 hxl hq hD hD1 hd
  go_enter Tryz.func188, Tryz.ntmps188
  go_wp2_with (first
    | (go_at_call 76; refine (plines_any HA4.out.box.pr).mono ?_; rintro en w5 ⟨rfl, hs⟩; have HA5 := Lib.hid (HA4.out.step HX.out.2 hs (to_lines HA4.out.box.pr.good).len); clear hs)
    | (go_at_call 182; obtain ⟨Fw, hA3⟩ := case_made HX.out.2 HS1.out.1 HS1.out.2 HS2.out.1 HS2.out.2; refine (pneed_any hA3.box.pr [105, 110]).mono ?_; rintro en w4 ⟨rfl, hs⟩; have HA4 := Lib.hid (hA3.step HX.out.2 hs (to_need hA3.box.pr.good _).len); clear hs hA3)
    | (go_at_call 191; refine (HW.out w1 HS1.out.1.1).mono ?_; rintro en w2 ⟨p2, k2, rfl, hu, hs⟩; have HS2 := Lib.hid (And.intro hs hu); clear hs hu)
    | (go_at_call 105; refine HT.out.mono ?_; rintro en w1 ⟨p, k1, rfl, -, hs⟩; have HS1 := Lib.hid (And.intro hs (hs.2.heap (heap_alloc_new w ZN) (by have := HX.out; omega))); clear hs))
  obtain ⟨Y, hY⟩ : ∃ Y, w2.heap.size + 1 = Y := ⟨_, rfl⟩
  have HA := Lib.hid (show ∃ pw cw pp cp cssp ps Fp pk ck cssk l Fk, CaO w0 w w5 X Y pw cw x Fw pp cp cssp ps Fp pk ck cssk l Fk (S1.need [105, 110]).lines ∧ ps = [] ∧ l = [] from by rw [← hY]; exact ⟨_, _, _, _, _, _, _, _, _, _, _, _, HA5.out, rfl, rfl⟩)
  have HYE := Lib.hid hY
  clear hY
  go_loopw [] (fun wr => ∃ f pw cw pp cp cssp ps Fp pk ck cssk l Fk S', CaO w0 w wr X (w2.heap.size + 1) pw cw x Fw pp cp cssp ps Fp pk ck cssk l Fk S' ∧ choiceL cmd f ps l S' = q ∧ S'.ts.length ≤ f) (fun wr => psLen wr X)
  case atStart => exact ⟨_, _, _, _, _, _, _, _, _, _, _, _, _, _, HA5.out, HQ.out, Nat.le_refl _⟩
  case round =>
    obtain ⟨f, pw, cw, pp, cp, cssp, ps, Fp, pk, ck, cssk, l, Fk, S', hL, hm, hf⟩ := hrel
    have hpos := hL.box.pr.good.pos
    obtain ⟨f, rfl⟩ : ∃ g, f = g + 1 := ⟨f - 1, by omega⟩
    rw [HYE.out] at hL ⊢
    have HIS := Lib.hid (pis_any hL.box.pr [101, 115, 97, 99])
    have HNX := Lib.hid (fun W (hW : Pr w0 W X S') => pnext_any hW)
    have HS := Lib.hid (And.intro hL (And.intro hm hf))
    clear hL hm hf hpos
    obtain ⟨t, ht⟩ : ∃ t, S'.hd = t := ⟨_, rfl⟩
    have HHD := Lib.hid ht
    rw [ht] at HNX
    unfold tkV at HNX
    obtain ⟨kd, hkd⟩ : ∃ x, t.kind = x := ⟨_, rfl⟩
    have HKD := Lib.hid hkd
    obtain ⟨tx, htx⟩ : ∃ x, T t.text = x := ⟨_, rfl⟩
    obtain ⟨wl, hwl⟩ : ∃ x, t.word.length = x := ⟨_, rfl⟩
    obtain ⟨at_, hat⟩ : ∃ x : Int, (t.at_ : Int) = x := ⟨_, rfl⟩
    simp only [hkd, htx, hwl, hat] at HNX
    clear ht hkd htx hwl hat
    obtain ⟨n, hn⟩ : ∃ n, ps.length = n := ⟨_, rfl⟩
    have HN := Lib.hid hn
    obtain ⟨m, hm⟩ : ∃ n, l.length = n := ⟨_, rfl⟩
    have HMM := Lib.hid hm
    clear hn hm
    cases hi : S'.is [101, 115, 97, 99] with
    | true =>
      rw [hi] at HIS
      have HE := Lib.hid (show choiceM cmd S = (.mk { nd0 with op := [99, 97, 115, 101], words := [x], pats := ps } l, S'.need [101, 115, 97, 99]) from by rw [HM.out, ← HS.out.2.1, choiceL_end (.inl hi)])
      clear hi
      go_wp2_with (first
          | (go_at_call 182; refine (pneed_any HL3.out.box.pr [101, 115, 97, 99]).mono ?_; rintro en w7 ⟨rfl, hs⟩; have HL7 := Lib.hid (HL3.out.step HX.out.2 hs (to_need HL3.out.box.pr.good _).len); have HBX := Lib.hid HL7.out.box; rw [HN.out, HMM.out] at HBX; clear hs)
          | (go_at_call 129; refine HIS.out.mono ?_; rintro en w3 ⟨rfl, hb⟩; have HL3 := Lib.hid (HS.out.1.new HX.out.2 hb); clear hb)
          | (refine wpList_load_row (by rfl) 56 (.tmp 5) (by rfl) Y (by rfl) 56 (nkC ⟨#[99, 97, 115, 101]⟩ ⟨#[]⟩ (.slice pw 1 cw) (.slice pp n cp) (.slice none 0 0) (.slice none 0 0) (.slice pk m ck)).toArray (0, 0) _ HBX.out.box Tryz.underlying56 rfl (by rw [node_info]; rfl) ?_)
          | (refine wpList_store_row (by rfl) 56 (.tmp 4) (.tmp 50) (by rfl) w.heap.size (nkC ⟨#[99, 97, 115, 101]⟩ ⟨#[]⟩ (.slice pw 1 cw) (.slice pp n cp) (.slice none 0 0) (.slice none 0 0) (.slice pk m ck)).toArray (by rfl) (by rfl) 56 zeroN.toArray HBX.out.zero (by rw [node_info]; rfl) rfl (all_oneCell_toArray (nkC_cel _ _ _ _ _ _ _ _ _ _ _ _ _ _ _ _ _).2) ?_))
      (try simp only [Exit.inBlock, Exit.then])
      refine bodyPost_ret (ret_tree rfl (setRow_heap w7 w.heap.size zeroN.toArray _ 56 (0, 0) HBX.out.zero) (nkC_cel _ _ _ _ _ _ _ _ _ _ _ _ _ _ _ _ _) rfl) rfl ?_
      rw [HE.out]
      have ht := HL7.out.tree
      rw [HN.out, HMM.out] at ht
      exact HBX.out.retR HX.out.2 HX.out.1 (nkC_cel _ _ _ _ _ _ _ _ _ _ _ _ _ _ _ _ _) rfl rfl ht
    | false =>
      rw [hi] at HIS
      by_cases hk : kd = 3
      · subst hk
        have HE := Lib.hid (show choiceM cmd S = (.mk { nd0 with op := [99, 97, 115, 101], words := [x], pats := ps } l, S'.need [101, 115, 97, 99]) from by rw [HM.out, ← HS.out.2.1, choiceL_end (.inr (by rw [HHD.out, HKD.out]))])
        clear hi
        go_wp2_with (first
            | (go_at_call 182; refine (pneed_any HL3.out.box.pr [101, 115, 97, 99]).mono ?_; rintro en w7 ⟨rfl, hs⟩; have HL7 := Lib.hid (HL3.out.step HX.out.2 hs (to_need HL3.out.box.pr.good _).len); have HBX := Lib.hid HL7.out.box; rw [HN.out, HMM.out] at HBX; clear hs)
            | (go_at_call 129; refine HIS.out.mono ?_; rintro en w2b ⟨rfl, hb⟩; have HL2 := Lib.hid (HS.out.1.new HX.out.2 hb); clear hb)
            | (go_at_call 45; refine (HNX.out _ HL2.out.box.pr).mono ?_; rintro en w3 ⟨p, k, rfl, -, hb⟩; have qf := tok_f0 3 at_ tx p wl k; have HL3 := Lib.hid (HL2.out.new HX.out.2 hb); clear hb)
            | (refine wpList_load_row (by rfl) 56 (.tmp 5) (by rfl) Y (by rfl) 56 (nkC ⟨#[99, 97, 115, 101]⟩ ⟨#[]⟩ (.slice pw 1 cw) (.slice pp n cp) (.slice none 0 0) (.slice none 0 0) (.slice pk m ck)).toArray (0, 0) _ HBX.out.box Tryz.underlying56 rfl (by rw [node_info]; rfl) ?_)
            | (refine wpList_store_row (by rfl) 56 (.tmp 4) (.tmp 50) (by rfl) w.heap.size (nkC ⟨#[99, 97, 115, 101]⟩ ⟨#[]⟩ (.slice pw 1 cw) (.slice pp n cp) (.slice none 0 0) (.slice none 0 0) (.slice pk m ck)).toArray (by rfl) (by rfl) 56 zeroN.toArray HBX.out.zero (by rw [node_info]; rfl) rfl (all_oneCell_toArray (nkC_cel _ _ _ _ _ _ _ _ _ _ _ _ _ _ _ _ _).2) ?_))
        (try simp only [Exit.inBlock, Exit.then])
        refine bodyPost_ret (ret_tree rfl (setRow_heap w7 w.heap.size zeroN.toArray _ 56 (0, 0) HBX.out.zero) (nkC_cel _ _ _ _ _ _ _ _ _ _ _ _ _ _ _ _ _) rfl) rfl ?_
        rw [HE.out]
        have ht := HL7.out.tree
        rw [HN.out, HMM.out] at ht
        exact HBX.out.retR HX.out.2 HX.out.1 (nkC_cel _ _ _ _ _ _ _ _ _ _ _ _ _ _ _ _ _) rfl rfl ht
      · have hkb : (kd != 3) = true := by simpa using hk
        have HI := Lib.hid (And.intro hi (show S'.hd.kind ≠ 3 from by rw [HHD.out, HKD.out]; exact hk))
        clear hi hk
        have HPT := Lib.hid (fun W (hW : Pr w0 W X S') => ppats_any hW)
        have HGP := Lib.hid (to_pats HS.out.1.box.pr.good)
        have HLT := Lib.hid (choice_lt HOK.out HS.out.1.box.pr.good HI.out.2)
        have HLP := Lib.hid (pats_lt HS.out.1.box.pr.good HI.out.2)
        have HGL := Lib.hid (to_list HOK.out _ HGP.out.good)
        obtain ⟨y, hy⟩ : ∃ y, (patsM S').1 = y := ⟨_, rfl⟩
        obtain ⟨S2, hS2⟩ : ∃ y, (patsM S').2 = y := ⟨_, rfl⟩
        have HPY := Lib.hid (show patsM S' = (y, S2) from by rw [← hy, ← hS2])
        rw [hS2] at HGP HLP HGL HLT
        rw [hy, hS2] at HPT
        clear hy hS2
        go_wp2_with (first
          | (go_at_call 129; refine HIS.out.mono ?_; rintro en w2b ⟨rfl, hb⟩; have HL2 := Lib.hid (HS.out.1.new HX.out.2 hb); clear hb)
          | (go_at_call 45; refine (HNX.out _ HL2.out.box.pr).mono ?_; rintro en w3 ⟨p, k, rfl, -, hb⟩; have qf := tok_f0 kd at_ tx p wl k; have HL3 := Lib.hid (HL2.out.new HX.out.2 hb); clear hb))
        refine regionL (S := (fun W => W.cell? ⟨Y, 4, none⟩ = some (.slice pp n cp))) (L := 9) (by kernel_rfl) ?_ (fun hHeld => ?_)
        · exact (by rw [cell_plain (HL3.out.new HX.out.2 (below_drewA w3)).box.box, ← HN.out]; rfl)
        refine takeL (i := 0) (k := 26) (v := ?_) rfl (by kernel_rfl) (by kernel_rfl) (by kernel_rfl) (by kernel_rfl) (fun _ _ _ h => h) (by kernel_rfl) (by kernel_rfl) (by kernel_rfl) (by rfl) ?_ (by assumption) ?_
        rotate_left
        · intro w hSw; (try dsimp only at hSw); go_simp <;> (with_reducible rfl)
        simp only [List.setIfInBounds_toArray, List.set_cons_zero, List.set_cons_succ]
        refine takeL (i := 1) (k := 27) (v := ?_) rfl (by kernel_rfl) (by kernel_rfl) (by kernel_rfl) (by kernel_rfl) (fun _ _ _ h => h) (by kernel_rfl) (by kernel_rfl) (by kernel_rfl) (by rfl) ?_ (by assumption) ?_
        rotate_left
        · intro w hSw; (try dsimp only at hSw); go_simp <;> (with_reducible rfl)
        simp only [List.setIfInBounds_toArray, List.set_cons_zero, List.set_cons_succ]
        refine takeL (i := 2) (k := 28) (v := ?_) rfl (by kernel_rfl) (by kernel_rfl) (by kernel_rfl) (by kernel_rfl) (fun _ _ _ h => h) (by kernel_rfl) (by kernel_rfl) (by kernel_rfl) (by rfl) ?_ (by assumption) ?_
        rotate_left
        · intro w hSw; (try dsimp only at hSw); go_simp <;> (with_reducible rfl)
        simp only [List.setIfInBounds_toArray, List.set_cons_zero, List.set_cons_succ]
        refine takeL (i := 3) (k := 29) (v := ?_) rfl (by kernel_rfl) (by kernel_rfl) (by kernel_rfl) (by kernel_rfl) (fun _ _ _ h => h) (by kernel_rfl) (by kernel_rfl) (by kernel_rfl) (by rfl) ?_ (by assumption) ?_
        rotate_left
        · intro w hSw; (try dsimp only at hSw); go_simp <;> (with_reducible rfl)
        simp only [List.setIfInBounds_toArray, List.set_cons_zero, List.set_cons_succ]
        refine nextL (i := 4) (by kernel_rfl) rfl (by kernel_rfl) (fun K hK => ?_)
        go_simp
        go_wp2_with (go_at_call 196; refine (HPT.out _ (HL3.out.new HX.out.2 (below_drewA w3)).box.pr).mono ?_; rintro en w6 ⟨p6, n6, k6, rfl, hnew, hs⟩; have HS6 := Lib.hid (And.intro hnew (And.intro ((HL3.out.new HX.out.2 (below_drewA w3)).step HX.out.2 hs (Nat.le_of_lt HLP.out)) hs.2.size)); clear hs hnew)
        refine hK.out _ _ ?_ ?_
        · exact .inr (by rw [cell_plain HS6.out.2.1.box.box, ← HN.out]; rfl)
        clear hK K
        refine nextL (i := 5) (by kernel_rfl) rfl (by kernel_rfl) (fun K hK => ?_)
        refine wp_one elWords (.tmp 30) rfl _ [.slice p6 n6 k6] rfl (slice_cel _ _ _) rfl ?_
        refine hK.out _ _ ?_ ?_
        · exact .inr (by rw [cell_plain (HS6.out.2.1.new HX.out.2 (below_new w6 _)).box.box, ← HN.out]; rfl)
        clear hK K
        simp only [Act.put, List.getElem_toArray, List.getElem_cons_succ, List.getElem_cons_zero, List.setIfInBounds_toArray, List.set_cons_zero, List.set_cons_succ]
        refine nextL (i := 6) (by kernel_rfl) rfl (by kernel_rfl) (fun K hK => ?_)
        refine wp_push elWords (.tmp 28) (.tmp 31) rfl HS6.out.2.1.pats (slice_cel _ _ _) (HS6.out.1.imp fun W hW => ⟨_, rfl, hW⟩) HL3.out.box.lt (fun k hk => (HL3.out.pats.lt k (.inr hk)).2) (by have := HS6.out.2.1.few1; omega) (by rw [HN.out]; rfl) rfl HS6.out.2.1.box.lt ?_
        intro p8 c8 F8 w8 hr8 hF8 hat8 hk8
        have HS8 := Lib.hid (And.intro hr8 (And.intro hF8 (And.intro hat8 hk8)))
        have HB8 := Lib.hid (HS6.out.2.1.box.turn HX.out.2 HX.out.1 hk8 (fun k hk => (HS6.out.2.1.pats.lt k (.inr hk)).1))
        clear hr8 hF8 hat8 hk8
        refine hK.out _ _ ?_ ?_
        · exact .inr (by rw [cell_plain HB8.out.box, ← HN.out]; rfl)
        clear hK K
        simp only [Act.put, List.getElem_toArray, List.getElem_cons_succ, List.getElem_cons_zero, List.setIfInBounds_toArray, List.set_cons_zero, List.set_cons_succ]
        refine nextL (i := 7) (by kernel_rfl) rfl (by kernel_rfl) (fun K hK => ?_)
        go_simp
        refine hK.out _ _ ?_ ?_
        · exact .inr (by rw [cell_plain HB8.out.box, ← HN.out]; rfl)
        clear hK K
        refine takeL (i := 8) (k := 34) (v := ?_) rfl (by kernel_rfl) (by kernel_rfl) (by kernel_rfl) (by kernel_rfl) (fun _ _ _ h => h) (by kernel_rfl) (by kernel_rfl) (by kernel_rfl) (by rfl) ?_ (by rw [cell_plain HB8.out.box, ← HN.out]; rfl) ?_
        rotate_left
        · intro w hSw; (try dsimp only at hSw); go_simp <;> (with_reducible rfl)
        simp only [List.setIfInBounds_toArray, List.set_cons_zero, List.set_cons_succ]
        refine nextL (i := 9) (by kernel_rfl) rfl (by kernel_rfl) (fun K hK => ?_)
        have d3 : w8.cell? ⟨Y, 4, none⟩ = some (.slice pp n cp) := (by rw [cell_plain HB8.out.box, ← HN.out]; rfl)
        have e3 : w8.frozen? ⟨Y, 4, none⟩ = false := frozen_plain HB8.out.box 4
        go_simp
        refine hK.out _ _ ?_ ?_
        · exact .inl (by kernel_rfl)
        clear hK K
        refine doneL (by kernel_rfl) ?_ _
        have HL9 := Lib.hid (HS6.out.2.1.pushP HX.out.2 HX.out.1 (fun k hk => (HL3.out.kids.lt k (.inr hk)).2) HS8.out.1 HS8.out.2.1 HS8.out.2.2.1 HS8.out.2.2.2 (by have := HS.out.1.few1; have := HLP.out; omega))
        obtain ⟨w9, hw9⟩ : ∃ w9, w9 = w8.setCell ⟨Y, 4, none⟩ (.slice p8 (ps.length + 1) c8) := ⟨_, rfl⟩
        rw [← hw9] at HL9 ⊢
        clear hw9
        go_wp2_with fail
        refine regionL (S := (fun W => W.cell? ⟨Y, 7, none⟩ = some (.slice pk m ck))) (L := 9) (by kernel_rfl) ?_ (fun hHeld => ?_)
        · exact (by rw [cell_plain (HL9.out.new HX.out.2 (below_drewA w9)).box.box, ← HMM.out]; rfl)
        refine takeL (i := 0) (k := 35) (v := ?_) rfl (by kernel_rfl) (by kernel_rfl) (by kernel_rfl) (by kernel_rfl) (fun _ _ _ h => h) (by kernel_rfl) (by kernel_rfl) (by kernel_rfl) (by rfl) ?_ (by assumption) ?_
        rotate_left
        · intro w hSw; (try dsimp only at hSw); go_simp <;> (with_reducible rfl)
        simp only [List.setIfInBounds_toArray, List.set_cons_zero, List.set_cons_succ]
        refine takeL (i := 1) (k := 36) (v := ?_) rfl (by kernel_rfl) (by kernel_rfl) (by kernel_rfl) (by kernel_rfl) (fun _ _ _ h => h) (by kernel_rfl) (by kernel_rfl) (by kernel_rfl) (by rfl) ?_ (by assumption) ?_
        rotate_left
        · intro w hSw; (try dsimp only at hSw); go_simp <;> (with_reducible rfl)
        simp only [List.setIfInBounds_toArray, List.set_cons_zero, List.set_cons_succ]
        refine takeL (i := 2) (k := 37) (v := ?_) rfl (by kernel_rfl) (by kernel_rfl) (by kernel_rfl) (by kernel_rfl) (fun _ _ _ h => h) (by kernel_rfl) (by kernel_rfl) (by kernel_rfl) (by rfl) ?_ (by assumption) ?_
        rotate_left
        · intro w hSw; (try dsimp only at hSw); go_simp <;> (with_reducible rfl)
        simp only [List.setIfInBounds_toArray, List.set_cons_zero, List.set_cons_succ]
        refine takeL (i := 3) (k := 38) (v := ?_) rfl (by kernel_rfl) (by kernel_rfl) (by kernel_rfl) (by kernel_rfl) (fun _ _ _ h => h) (by kernel_rfl) (by kernel_rfl) (by kernel_rfl) (by rfl) ?_ (by assumption) ?_
        rotate_left
        · intro w hSw; (try dsimp only at hSw); go_simp <;> (with_reducible rfl)
        simp only [List.setIfInBounds_toArray, List.set_cons_zero, List.set_cons_succ]
        refine takeL (i := 4) (k := 39) (v := ?_) rfl (by kernel_rfl) (by kernel_rfl) (by kernel_rfl) (by kernel_rfl) (fun _ _ _ h => h) (by kernel_rfl) (by kernel_rfl) (by kernel_rfl) (by rfl) ?_ (by assumption) ?_
        rotate_left
        · intro w hSw; (try dsimp only at hSw); go_simp <;> (with_reducible rfl)
        simp only [List.setIfInBounds_toArray, List.set_cons_zero, List.set_cons_succ]
        refine nextL (i := 5) (by kernel_rfl) rfl (by kernel_rfl) (fun K hK => ?_)
        go_simp
        go_wp2_with (go_at_call 44; rw [← HD1.out]; refine (HC.out _ X S2 (HL9.out.new HX.out.2 (below_drewA w9)).box.pr).mono ?_; rintro en w10 ⟨c10, rfl, hcel, hnew, hs⟩; rw [HD1.out]; have HS10 := Lib.hid (And.intro hcel (And.intro hnew (And.intro ((HL9.out.new HX.out.2 (below_drewA w9)).step HX.out.2 hs HGL.out.len) hs.2.size))); clear hcel hnew hs)
        refine hK.out _ _ ?_ ?_
        · exact .inr (by rw [cell_plain HS10.out.2.2.1.box.box, ← HMM.out]; rfl)
        clear hK K
        refine nextL (i := 6) (by kernel_rfl) rfl (by kernel_rfl) (fun K hK => ?_)
        refine wp_one elNode (.tmp 40) rfl _ c10 rfl HS10.out.1 rfl ?_
        refine hK.out _ _ ?_ ?_
        · exact .inr (by rw [cell_plain (HS10.out.2.2.1.new HX.out.2 (below_new w10 _)).box.box, ← HMM.out]; rfl)
        clear hK K
        simp only [Act.put, List.getElem_toArray, List.getElem_cons_succ, List.getElem_cons_zero, List.setIfInBounds_toArray, List.set_cons_zero, List.set_cons_succ]
        refine nextL (i := 7) (by kernel_rfl) rfl (by kernel_rfl) (fun K hK => ?_)
        refine wp_push elNode (.tmp 36) (.tmp 41) rfl HS10.out.2.2.1.kids HS10.out.1 HS10.out.2.1 HL9.out.box.lt (fun k hk => (HL9.out.kids.lt k (.inr hk)).2) (by have := HS10.out.2.2.1.few2; omega) (by rw [HMM.out]; rfl) rfl HS10.out.2.2.1.box.lt ?_
        intro p11 c11 F11 w11 hr11 hF11 hat11 hk11
        have HS11 := Lib.hid (And.intro hr11 (And.intro hF11 (And.intro hat11 hk11)))
        have HB11 := Lib.hid (HS10.out.2.2.1.box.turn HX.out.2 HX.out.1 hk11 (fun k hk => (HS10.out.2.2.1.kids.lt k (.inr hk)).1))
        clear hr11 hF11 hat11 hk11
        refine hK.out _ _ ?_ ?_
        · exact .inr (by rw [cell_plain HB11.out.box, ← HMM.out]; rfl)
        clear hK K
        simp only [Act.put, List.getElem_toArray, List.getElem_cons_succ, List.getElem_cons_zero, List.setIfInBounds_toArray, List.set_cons_zero, List.set_cons_succ]
        refine takeL (i := 8) (k := 43) (v := ?_) rfl (by kernel_rfl) (by kernel_rfl) (by kernel_rfl) (by kernel_rfl) (fun _ _ _ h => h) (by kernel_rfl) (by kernel_rfl) (by kernel_rfl) (by rfl) ?_ (by rw [cell_plain HB11.out.box, ← HMM.out]; rfl) ?_
        rotate_left
        · intro w hSw; (try dsimp only at hSw); go_simp <;> (with_reducible rfl)
        simp only [List.setIfInBounds_toArray, List.set_cons_zero, List.set_cons_succ]
        refine nextL (i := 9) (by kernel_rfl) rfl (by kernel_rfl) (fun K hK => ?_)
        have d3 : w11.cell? ⟨Y, 7, none⟩ = some (.slice pk m ck) := (by rw [cell_plain HB11.out.box, ← HMM.out]; rfl)
        have e3 : w11.frozen? ⟨Y, 7, none⟩ = false := frozen_plain HB11.out.box 7
        go_simp
        refine hK.out _ _ ?_ ?_
        · exact .inl (by kernel_rfl)
        clear hK K
        refine doneL (by kernel_rfl) ?_ _
        have HL12 := Lib.hid (HS10.out.2.2.1.pushK HX.out.2 HX.out.1 (fun k hk => (HL9.out.pats.lt k (.inr hk)).2) HS11.out.1 HS11.out.2.1 HS11.out.2.2.1 HS11.out.2.2.2 (by have := HS.out.1.few2; have := HLP.out; have := HGL.out.len; omega))
        obtain ⟨w12, hw12⟩ : ∃ w12, w12 = w11.setCell ⟨Y, 7, none⟩ (.slice p11 (l.length + 1) c11) := ⟨_, rfl⟩
        rw [← hw12] at HL12 ⊢
        clear hw12
        go_wp2_with (first
          | (go_at_call 182; refine (pneed_any HL12.out.box.pr [59, 59]).mono ?_; rintro en w13 ⟨rfl, hs⟩; have HL13 := Lib.hid (HL12.out.step HX.out.2 hs (to_need HL12.out.box.pr.good _).len); clear hs)
          | (go_at_call 76; refine (plines_any HL13.out.box.pr).mono ?_; rintro en w14 ⟨rfl, hs⟩; have HL14 := Lib.hid (HL13.out.step HX.out.2 hs (to_lines HL13.out.box.pr.good).len); clear hs))
        go_roundw
        case rel => exact ⟨f, _, _, _, _, _, _, _, _, _, _, _, _, _, HL14.out, by rw [← HS.out.2.1, choiceL_go HI.out.1 HI.out.2, HPY.out], by have := HS.out.2.2; have h9 := HLT.out; omega⟩
        case measure => have h9 := HLT.out; rw [HL14.out.box.pr.len, HS.out.1.box.pr.len]; exact h9
end Go.Proofs.YtakceggnadagmaaGreatDoor
