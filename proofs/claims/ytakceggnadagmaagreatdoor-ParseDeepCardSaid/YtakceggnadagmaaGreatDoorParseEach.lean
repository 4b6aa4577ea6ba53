/-
  Proved: contracts of a parser's fun and each, of whatever commands. Conditions: the reader lies in memory.
-/
import Derived.Test.YtakceggnadagmaaGreatDoorPj12
namespace Go.Proofs.YtakceggnadagmaaGreatDoor
open Go Go.RowKit GlyphMath LexMath TreeMath ParseMath

/-- A node that has no kids yet, by its cells. -/
def ndC (o m : ByteArray) (wv pv av rv : Value) : List Value := [.string o, .string m, .slice none 0 0, wv, pv, av, rv]
/-- A node with its kids, by its cells. -/
def nkC (o m : ByteArray) (wv pv av rv kv : Value) : List Value := [.string o, .string m, .slice none 0 0, wv, pv, av, rv, kv]
theorem nkC_cel (o m : ByteArray) (p1 p2 p3 p4 p5 : Option Addr) (n1 n2 n3 n4 n5 c1 c2 c3 c4 c5 : Nat) : Cel 8 (nkC o m (.slice p1 n1 c1) (.slice p2 n2 c2) (.slice p3 n3 c3) (.slice p4 n4 c4) (.slice p5 n5 c5)) := ⟨rfl, fun v hv => by
  simp only [nkC, List.mem_cons, List.not_mem_nil, or_false] at hv
  rcases hv with rfl | rfl | rfl | rfl | rfl | rfl | rfl | rfl <;> rfl⟩
theorem nd_info : (Tryz.prog.info? 44).map (·.size) = some 7 := by kernel_rfl
theorem built_nk (o m : ByteArray) (p1 p2 p3 p4 p5 : Option Addr) (n1 n2 n3 n4 n5 c1 c2 c3 c4 c5 : Nat) : Tryz.prog.built 56 [(0, .agg (ndC o m (.slice p1 n1 c1) (.slice p2 n2 c2) (.slice p3 n3 c3) (.slice p4 n4 c4)).toArray), (1, .slice p5 n5 c5)] = some (nkC o m (.slice p1 n1 c1) (.slice p2 n2 c2) (.slice p3 n3 c3) (.slice p4 n4 c4) (.slice p5 n5 c5)).toArray := by kernel_rfl
theorem built_n0 (o m : ByteArray) (p1 p2 p3 p4 : Option Addr) (n1 n2 n3 n4 c1 c2 c3 c4 : Nat) : Tryz.prog.built 56 [(0, .agg (ndC o m (.slice p1 n1 c1) (.slice p2 n2 c2) (.slice p3 n3 c3) (.slice p4 n4 c4)).toArray)] = some (nkC o m (.slice p1 n1 c1) (.slice p2 n2 c2) (.slice p3 n3 c3) (.slice p4 n4 c4) (.slice none 0 0)).toArray := by kernel_rfl
/-- A struct's value of two parts, of one, at an operation by itself. -/
theorem wp_build2 {o : Oper} {a : Act} {w : World} {K : Act → World → Prop} {Q : Exit → Act → World → Prop} (t : TypeId) (i j : Nat) (x y : Operand) (ho : o.op = .build t #[(i, x), (j, y)]) (v u : Value) (cells : Array Value)
    (hx : a.eval x = v) (hy : a.eval y = u) (hf : Tryz.prog.built t [(i, v), (j, u)] = some cells) (h : K (a.put o.dst (.agg cells)) w) : o.wp Tryz.prog a w K Q := by
  have hv : (#[(i, x), (j, y)].map fun (i, x) => (i, a.eval x)).toList = [(i, v), (j, u)] := by simp [hx, hy]
  refine wp_build t _ ho (by rw [hv, hf]; rfl) ?_
  rw [hv, hf]
  exact h
theorem wpList_build1 {ops : Array Oper} {rest : List Oper} {o : Oper} {a : Act} {w : World} {Q : Exit → Act → World → Prop} (hg : o.guard = none) (t : TypeId) (i : Nat) (x : Operand) (ho : o.op = .build t #[(i, x)]) (v : Value) (cells : Array Value)
    (hx : a.eval x = v) (hf : Tryz.prog.built t [(i, v)] = some cells) (h : wpList Tryz.prog ops Q rest (a.put o.dst (.agg cells)) w) : wpList Tryz.prog ops Q (o :: rest) a w := by
  have hv : (#[(i, x)].map fun (i, x) => (i, a.eval x)).toList = [(i, v)] := by simp [hx]
  refine wpList_build hg t _ ho (by rw [hv, hf]; rfl) ?_
  rw [hv, hf]
  exact h
/-- A node in a variable. -/
structure BxO (w0 w wr : World) (X Y : Nat) (cs : Array Value) (t : TypeId) (S : PS) : Prop where
  box : wr.heap[Y]? = some (.cells cs t (0, 0))
  base : w.heap.size < Y
  pr : Pr w0 wr X S
  zero : wr.heap[w.heap.size]? = some ZN
  kept : Kept (fun k => k = X) w wr
theorem BxO.lt {w0 w wr : World} {X Y : Nat} {cs : Array Value} {t : TypeId} {S : PS} (h : BxO w0 w wr X Y cs t S) : Y < wr.heap.size := (Array.getElem?_eq_some_iff.1 h.box).1
theorem BxO.step {w0 w wr w1 : World} {X Y : Nat} {cs : Array Value} {t : TypeId} {S S' : PS} (h : BxO w0 w wr X Y cs t S) (hX : X < w.heap.size) (hs : PStep w0 wr w1 X S') : BxO w0 w w1 X Y cs t S' :=
  ⟨hs.2.heap h.box (by have := h.base; omega), h.base, hs.1, hs.2.heap h.zero (by omega), h.kept.on hs.2⟩
theorem BxO.new {w0 w wr w1 : World} {X Y : Nat} {cs : Array Value} {t : TypeId} {S : PS} (h : BxO w0 w wr X Y cs t S) (hX : X < w.heap.size) (hb : Below wr.heap.size wr w1) : BxO w0 w w1 X Y cs t S := h.step hX ⟨h.pr.new hb, Kept.of_below hb⟩
/-- Blocks from Y on turn, but not Y. -/
theorem BxO.turn {D : Nat → Prop} {w0 w wr w1 : World} {X Y : Nat} {cs : Array Value} {t : TypeId} {S : PS} (h : BxO w0 w wr X Y cs t S) (hX : X < w.heap.size) (hX0 : w0.heap.size ≤ X) (hk : Kept D wr w1) (hD : ∀ k, D k → Y < k) : BxO w0 w w1 X Y cs t S := by
  have hb := h.base
  exact ⟨hk.heap h.box (fun e => by have := hD _ e; omega), h.base, h.pr.kept hk (fun e => by have := hD _ e; omega) (fun k e => by have := hD _ e; omega), hk.heap h.zero (fun e => by have := hD _ e; omega), h.kept.trans hk fun i hi => .inr (by have := hD _ hi; omega)⟩
/-- One of its cells is stored. -/
theorem BxO.set {w0 w wr : World} {X Y : Nat} {cs : Array Value} {t : TypeId} {S : PS} (h : BxO w0 w wr X Y cs t S) (hX : X < w.heap.size) (hX0 : w0.heap.size ≤ X) (i : Nat) (u : Value) : BxO w0 w (wr.setCell ⟨Y, i, none⟩ u) X Y (cs.setIfInBounds i u) t S := by
  have hb := h.base
  have hk : Kept (fun k => k = Y) wr (wr.setCell ⟨Y, i, none⟩ u) := (Kept.refl (fun k => k = Y) wr).setCell (p := ⟨Y, i, none⟩) (.inl rfl) _
  exact ⟨heap_setCell_same wr Y i cs t u h.box, h.base, h.pr.kept hk (by omega) (fun k e => by omega), hk.heap h.zero (by omega), h.kept.trans hk fun i hi => .inr (by omega)⟩
/-- What a call answers that has stored a tree without redirs as its result. -/
theorem BxO.retR {w0 w w4 : World} {X Y : Nat} {cs : Array Value} {t : TypeId} {S : PS} (h : BxO w0 w w4 X Y cs t S) (hX : X < w.heap.size) (hX0 : w0.heap.size ≤ X) {c : List Value} {n : Tr} (hc : Cel 8 c) (h6 : c[6]? = some (.slice none 0 0)) (hr : n.node.redirs = []) (ht : NewAt w0 w4 (w.heap.size + 1) fun W => TrC W c n) :
    TrEndR w0 w (w4.setRow w.heap.size c.toArray) (.returned (.agg c.toArray)) X (n, S) := by
  have hk := kept_row0 w4 w.heap.size c.toArray
  exact ⟨c, rfl, ⟨hc, h6, hr⟩, (ht.kept hk (fun k h1 h2 => by omega)).base (by omega), h.pr.kept hk (by omega) (fun i hi => by omega), h.kept.trans hk fun i hi => .inr (by omega)⟩

set_option maxHeartbeats 4000000 in
set_option maxRecDepth 4000 in
theorem pfun_any {w0 : World} {held : Do} {d : Nat} (hd : d ≤ 100) (hc : CallDo w0 183 held (d + 1)) : CallDo w0 155 (funM held) d := by
  intro w X S h
  have HX := Lib.hid h.base
  have HNM := Lib.hid (pname_any (h.new (below_new w ZN)))
  have HC := Lib.hid hc
  have HM := Lib.hid (show funM held S = (.mk { nd0 with op := [102, 117, 110], name := S.name.1 } [(held ((S.name.2.need [40]).need [41]).lines).1], (held ((S.name.2.need [40]).need [41]).lines).2) from rfl)
  obtain ⟨nm, hnm⟩ : ∃ x, S.name.1 = x := ⟨_, rfl⟩
  obtain ⟨S1, hS1⟩ : ∃ x, S.name.2 = x := ⟨_, rfl⟩
  rw [hnm, hS1] at HM HNM
  obtain ⟨tn, htn⟩ : ∃ x, T nm = x := ⟨_, rfl⟩
  have HTN := Lib.hid htn
  rw [htn] at HNM
  have hwr := wrap1 hd
  obtain ⟨D, hD⟩ : ∃ D : Int, (d : Int) = D := ⟨_, rfl⟩
  rw [hD] at hwr ⊢
  obtain ⟨D1, hD1⟩ : ∃ D : Int, ((d + 1 : Nat) : Int) = D := ⟨_, rfl⟩
  have HD1 := Lib.hid hD1
  rw [hD1] at hwr
  clear h hc hnm hS1 htn hD hD1 hd
  go_enter Tryz.func155, Tryz.ntmps155
  go_wp2_with (first
    | (go_at_call 76; refine (plines_any HA4.out.pr).mono ?_; rintro en w5 ⟨rfl, hs⟩; have HA5 := Lib.hid (HA4.out.step HX.out.2 hs); clear hs)
    | (go_at_call 182; refine (pneed_any HA3.out.pr [41]).mono ?_; rintro en w4 ⟨rfl, hs⟩; have HA4 := Lib.hid (HA3.out.step HX.out.2 hs); clear hs)
    | (go_at_call 182; have hA2 : BxO w0 w (w1.alloc (.cells (ndC ⟨#[102, 117, 110]⟩ tn (.slice none 0 0) (.slice none 0 0) (.slice none 0 0) (.slice none 0 0)).toArray 44)) X w1.heap.size (ndC ⟨#[102, 117, 110]⟩ tn (.slice none 0 0) (.slice none 0 0) (.slice none 0 0) (.slice none 0 0)).toArray 44 S1 := ⟨heap_alloc_new w1 _, (Array.getElem?_eq_some_iff.1 HS1.out.2).1, HS1.out.1.1.new (below_new _ _), kept_alloc2 HS1.out.2 _, ((Kept.of_below (below_new w ZN)).on HS1.out.1.2).on (Kept.of_below (below_new _ _))⟩; refine (pneed_any hA2.pr [40]).mono ?_; rintro en w3 ⟨rfl, hs⟩; have HA3 := Lib.hid (hA2.step HX.out.2 hs); clear hs hA2)
    | (go_at_call 181; refine HNM.out.mono ?_; rintro en w1 ⟨rfl, hs⟩; have HS1 := Lib.hid (And.intro hs (hs.2.heap (heap_alloc_new w ZN) (by have := HX.out; omega))); clear hs))
  (try simp only [Act.put])
  refine regionL (S := (fun W => W.heap[w1.heap.size]? = some (.cells (ndC ⟨#[102, 117, 110]⟩ tn (.slice none 0 0) (.slice none 0 0) (.slice none 0 0) (.slice none 0 0)).toArray 44 (0, 0)))) (L := 7) (by kernel_rfl) ?_ (fun hHeld => ?_)
  · exact HA5.out.box
  refine takeL (i := 0) (k := 15) (v := .agg (ndC ⟨#[102, 117, 110]⟩ tn (.slice none 0 0) (.slice none 0 0) (.slice none 0 0) (.slice none 0 0)).toArray) rfl (by kernel_rfl) (by kernel_rfl) (by kernel_rfl) (by kernel_rfl) (fun _ _ _ h => h) (by kernel_rfl) (by kernel_rfl) (by kernel_rfl) (by rfl) ?_ (by assumption) ?_
  · intro w hSw; exact exec_load_row _ 44 (.tmp 5) rfl w1.heap.size rfl 44 (ndC ⟨#[102, 117, 110]⟩ tn (.slice none 0 0) (.slice none 0 0) (.slice none 0 0) (.slice none 0 0)).toArray (0, 0) _ hSw Tryz.underlying44 rfl (by rw [nd_info]; rfl)
  simp only [List.setIfInBounds_toArray, List.set_cons_zero, List.set_cons_succ]
  refine takeL (i := 1) (k := 16) (v := ?_) rfl (by kernel_rfl) (by kernel_rfl) (by kernel_rfl) (by kernel_rfl) (fun _ _ _ h => h) (by kernel_rfl) (by kernel_rfl) (by kernel_rfl) (by rfl) ?_ (by assumption) ?_
  rotate_left
  · intro w hSw; (try dsimp only at hSw); go_simp <;> (with_reducible rfl)
  simp only [List.setIfInBounds_toArray, List.set_cons_zero, List.set_cons_succ]
  refine takeL (i := 2) (k := 17) (v := ?_) rfl (by kernel_rfl) (by kernel_rfl) (by kernel_rfl) (by kernel_rfl) (fun _ _ _ h => h) (by kernel_rfl) (by kernel_rfl) (by kernel_rfl) (by rfl) ?_ (by assumption) ?_
  rotate_left
  · intro w hSw; (try dsimp only at hSw); go_simp <;> (with_reducible rfl)
  simp only [List.setIfInBounds_toArray, List.set_cons_zero, List.set_cons_succ]
  refine takeL (i := 3) (k := 18) (v := ?_) rfl (by kernel_rfl) (by kernel_rfl) (by kernel_rfl) (by kernel_rfl) (fun _ _ _ h => h) (by kernel_rfl) (by kernel_rfl) (by kernel_rfl) (by rfl) ?_ (by assumption) ?_
  rotate_left
  · intro w hSw; (try dsimp only at hSw); go_simp <;> (with_reducible rfl)
  simp only [List.setIfInBounds_toArray, List.set_cons_zero, List.set_cons_succ]
  refine nextL (i := 4) (by kernel_rfl) rfl (by kernel_rfl) (fun K hK => ?_)
  go_simp
  go_wp2_with (go_at_call 183; rw [← HD1.out]; refine (HC.out _ X _ (HA5.out.new HX.out.2 (below_drewA w5)).pr).mono ?_; rintro en w7 ⟨c7, rfl, hcel, hnew, hs⟩; rw [HD1.out]; have HA7 := Lib.hid ((HA5.out.new HX.out.2 (below_drewA w5)).step HX.out.2 hs); have HS7 := Lib.hid (And.intro hcel (And.intro hnew hs.2.size)); clear hcel hnew hs)
  refine hK.out _ _ ?_ ?_
  · exact .inr HA7.out.box
  clear hK K
  refine nextL (i := 5) (by kernel_rfl) rfl (by kernel_rfl) (fun K hK => ?_)
  refine wp_one elNode (.tmp 19) rfl _ c7 rfl HS7.out.1 rfl ?_
  refine hK.out _ _ ?_ ?_
  · exact .inr (HA7.out.new HX.out.2 (below_new w7 _)).box
  clear hK K
  simp only [Act.put, List.getElem_toArray, List.getElem_cons_succ, List.getElem_cons_zero, List.setIfInBounds_toArray, List.set_cons_zero, List.set_cons_succ]
  refine nextL (i := 6) (by kernel_rfl) rfl (by kernel_rfl) (fun K hK => ?_)
  refine wp_build2 56 0 1 (.tmp 15) (.tmp 20) rfl (.agg (ndC ⟨#[102, 117, 110]⟩ tn (.slice none 0 0) (.slice none 0 0) (.slice none 0 0) (.slice none 0 0)).toArray) (.slice (some ⟨w7.heap.size, 0, none⟩) 1 1) (nkC ⟨#[102, 117, 110]⟩ tn (.slice none 0 0) (.slice none 0 0) (.slice none 0 0) (.slice none 0 0) (.slice (some ⟨w7.heap.size, 0, none⟩) 1 1)).toArray rfl rfl (built_nk _ _ _ _ _ _ _ _ _ _ _ _ _ _ _ _ _) ?_
  refine hK.out _ _ ?_ ?_
  · exact .inr (HA7.out.new HX.out.2 (below_new w7 _)).box
  clear hK K
  simp only [Act.put, List.getElem_toArray, List.getElem_cons_succ, List.getElem_cons_zero, List.setIfInBounds_toArray, List.set_cons_zero, List.set_cons_succ]
  refine nextL (i := 7) (by kernel_rfl) rfl (by kernel_rfl) (fun K hK => ?_)
  refine wp_store_row 56 (.tmp 4) (.tmp 21) rfl w.heap.size (nkC ⟨#[102, 117, 110]⟩ tn (.slice none 0 0) (.slice none 0 0) (.slice none 0 0) (.slice none 0 0) (.slice (some ⟨w7.heap.size, 0, none⟩) 1 1)).toArray rfl rfl 56 zeroN.toArray (HA7.out.new HX.out.2 (below_new w7 _)).zero (by rw [node_info]; rfl) rfl (all_oneCell_toArray (nkC_cel _ _ _ _ _ _ _ _ _ _ _ _ _ _ _ _ _).2) ?_
  refine hK.out _ _ ?_ ?_
  · exact .inl (by kernel_rfl)
  clear hK K
  simp only [Act.put, List.getElem_toArray, List.getElem_cons_succ, List.getElem_cons_zero]
  refine doneL (by kernel_rfl) ?_ _
  go_wp2_with fail
  (try simp only [Exit.inBlock, Exit.then])
  refine bodyPost_ret (ret_tree rfl (setRow_heap (w7.alloc (.cells c7.toArray 56)) w.heap.size zeroN.toArray _ 56 (0, 0) (HA7.out.new HX.out.2 (below_new w7 _)).zero) (nkC_cel _ _ _ _ _ _ _ _ _ _ _ _ _ _ _ _ _) rfl) rfl ?_
  rw [HM.out]
  obtain ⟨F, hr, -⟩ := RowG.one (w0 := w0) (w := w7) (e := 56) (B := w.heap.size + 1) HS7.out.1 HS7.out.2.1 (by have := HA5.out.lt; have := HA5.out.base; exact Nat.le_trans this (Nat.le_of_lt HA5.out.lt)) (by have := HA7.out.lt; have := HA7.out.base; omega)
  have ht := Kids.tree hr (n := { nd0 with op := [102, 117, 110], name := nm }) (cs := ndC ⟨#[102, 117, 110]⟩ tn (.slice none 0 0) (.slice none 0 0) (.slice none 0 0) (.slice none 0 0)) (by simp [maxLen]) (NewAt.of0 fun W _ => ⟨rfl, _, _, _, _, by rw [← HTN.out]; rfl, SlAt.nil _ _ _ _, SlAt.nil _ _ _ _, SlAt.nil _ _ _ _, SlAt.nil _ _ _ _⟩)
  exact ((HA7.out.new HX.out.2 (below_new w7 _)).retR HX.out.2 HX.out.1 (nkC_cel _ _ _ _ _ _ _ _ _ _ _ _ _ _ _ _ _) rfl rfl ht).plain

/-- A row of words in a node in a variable, in a loop. -/
structure EaO (w0 w wr : World) (X Y : Nat) (tn : ByteArray) (p : Option Addr) (c : Nat) (css : List (List Value)) (l : List (List Pt)) (F : Nat → Prop) (S : PS) : Prop where
  box : BxO w0 w wr X Y (ndC ⟨#[102, 111, 114]⟩ tn (.slice p l.length c) (.slice none 0 0) (.slice none 0 0) (.slice none 0 0)).toArray 44 S
  row : WRow w0 wr (Y + 1) (.slice p l.length c) css l F
  few : l.length + S.ts.length ≤ 4002
theorem EaO.step {w0 w wr w1 : World} {X Y : Nat} {tn : ByteArray} {p : Option Addr} {c : Nat} {css : List (List Value)} {l : List (List Pt)} {F : Nat → Prop} {S S' : PS} (h : EaO w0 w wr X Y tn p c css l F S) (hX : X < w.heap.size) (hs : PStep w0 wr w1 X S') (hl : S'.ts.length ≤ S.ts.length) : EaO w0 w w1 X Y tn p c css l F S' :=
  ⟨h.box.step hX hs, h.row.kept hs.2 (fun k hk => by have := (h.row.lt k hk).1; have := h.box.base; omega), by have := h.few; omega⟩
theorem EaO.new {w0 w wr w1 : World} {X Y : Nat} {tn : ByteArray} {p : Option Addr} {c : Nat} {css : List (List Value)} {l : List (List Pt)} {F : Nat → Prop} {S : PS} (h : EaO w0 w wr X Y tn p c css l F S) (hX : X < w.heap.size) (hb : Below wr.heap.size wr w1) : EaO w0 w w1 X Y tn p c css l F S := h.step hX ⟨h.box.pr.new hb, Kept.of_below hb⟩ (Nat.le_refl _)
theorem wordsL_go {f : Nat} {l : List (List Pt)} {S : PS} (h : S.isWord = true) : wordsL (f + 1) l S = wordsL f (l ++ [S.word.1]) S.word.2 := by rw [wordsL, if_pos h]
theorem wordsL_end {f : Nat} {l : List (List Pt)} {S : PS} (h : S.isWord = false) : wordsL (f + 1) l S = (l, S) := by rw [wordsL, if_neg (by rw [h]; decide)]

set_option maxHeartbeats 8000000 in
set_option maxRecDepth 4000 in
theorem peach_any {w0 : World} {cmd : Do} {d : Nat} (hbd : CallDo w0 195 (bodyM cmd) d) : CallDoR w0 187 (eachM cmd) d := by
  intro w X S h
  have HX := Lib.hid h.base
  have HT := Lib.hid (ptake_any (h.new (below_new w ZN)))
  have HGT := Lib.hid (to_take h.good)
  have HBD := Lib.hid hbd
  have HM := Lib.hid (show eachM cmd S = (.mk { nd0 with op := [102, 111, 114], name := S.take.name.1, words := (wordsL (S.take.name.2.need [105, 110]).ts.length [] (S.take.name.2.need [105, 110])).1 } [(bodyM cmd (wordsL (S.take.name.2.need [105, 110]).ts.length [] (S.take.name.2.need [105, 110])).2.sep.2).1], (bodyM cmd (wordsL (S.take.name.2.need [105, 110]).ts.length [] (S.take.name.2.need [105, 110])).2.sep.2).2) from rfl)
  have HNM := Lib.hid (fun W (hW : Pr w0 W X S.take) => pname_any hW)
  obtain ⟨nm, hnm⟩ : ∃ x, S.take.name.1 = x := ⟨_, rfl⟩
  obtain ⟨S1, hS1⟩ : ∃ x, S.take.name.2 = x := ⟨_, rfl⟩
  rw [hnm, hS1] at HM HNM
  obtain ⟨tn, htn⟩ : ∃ x, T nm = x := ⟨_, rfl⟩
  have HTN := Lib.hid htn
  rw [htn] at HNM
  obtain ⟨S2, hS2⟩ : ∃ x, S1.need [105, 110] = x := ⟨_, rfl⟩
  have HS2 := Lib.hid hS2
  rw [hS2] at HM
  obtain ⟨q, hq⟩ : ∃ q, wordsL S2.ts.length [] S2 = q := ⟨_, rfl⟩
  rw [hq] at HM
  have HQ := Lib.hid hq
  obtain ⟨D, hD⟩ : ∃ D : Int, (d : Int) = D := ⟨_, rfl⟩
  have HD := Lib.hid hD
  rw [hD]
  clear h hbd hnm hS1 htn hS2 hq hD
  go_enter Tryz.func187, Tryz.ntmps187
  go_wp2_with (first
    | (go_at_call 182; have hA2 : EaO w0 w (w2.alloc (.cells (ndC ⟨#[102, 111, 114]⟩ tn (.slice none 0 0) (.slice none 0 0) (.slice none 0 0) (.slice none 0 0)).toArray 44)) X w2.heap.size tn none 0 [] [] (fun _ => False) S1 := ⟨⟨heap_alloc_new w2 _, (Array.getElem?_eq_some_iff.1 HS2b.out.2).1, HS2b.out.1.1.new (below_new _ _), kept_alloc2 HS2b.out.2 _, (((Kept.of_below (below_new w ZN)).on HS1.out.1.2).on HS2b.out.1.2).on (Kept.of_below (below_new _ _))⟩, RowG.nil _ _ _ _ _ _, by have := HS2b.out.1.1.good.few; simp; omega⟩; refine (pneed_any hA2.box.pr [105, 110]).mono ?_; rintro en w3 ⟨rfl, hs⟩; have HA3 := Lib.hid (hA2.step HX.out.2 hs (to_need HS2b.out.1.1.good _).len); rw [HS2.out] at HA3; clear hs hA2)
    | (go_at_call 181; refine (HNM.out w1 HS1.out.1.1).mono ?_; rintro en w2 ⟨rfl, hs⟩; have HS2b := Lib.hid (And.intro hs (hs.2.heap HS1.out.2 (by have := HX.out; omega))); clear hs)
    | (go_at_call 105; refine HT.out.mono ?_; rintro en w1 ⟨p, k1, rfl, -, hs⟩; have HS1 := Lib.hid (And.intro hs (hs.2.heap (heap_alloc_new w ZN) (by have := HX.out; omega))); clear hs))
  go_loopw [] (fun wr => ∃ f p c css l F S', EaO w0 w wr X w2.heap.size tn p c css l F S' ∧ wordsL f l S' = q ∧ S'.ts.length ≤ f) (fun wr => psLen wr X)
  case atStart => exact ⟨_, _, _, _, _, _, _, HA3.out, HQ.out, Nat.le_refl _⟩
  case round =>
    obtain ⟨f, p, c, css, l, F, S', hL, hm, hf⟩ := hrel
    have hpos := hL.box.pr.good.pos
    obtain ⟨f, rfl⟩ : ∃ g, f = g + 1 := ⟨f - 1, by omega⟩
    have HIW := Lib.hid (pisWord_any hL.box.pr)
    have HS := Lib.hid (And.intro hL (And.intro hm hf))
    clear hL hm hf hpos
    obtain ⟨Y, hY⟩ : ∃ Y, w2.heap.size = Y := ⟨_, rfl⟩
    rw [hY] at HS ⊢
    obtain ⟨n, hn⟩ : ∃ n, l.length = n := ⟨_, rfl⟩
    have HN := Lib.hid hn
    have HY := Lib.hid hY
    clear hn hY
    cases hi : S'.isWord with
    | true =>
      rw [hi] at HIW
      have HI := Lib.hid hi
      clear hi
      obtain ⟨y, hy⟩ : ∃ y, S'.word.1 = y := ⟨_, rfl⟩
      have HYW := Lib.hid hy
      have HW2 := Lib.hid (fun W (hW : Pr w0 W X S') => pword_any hW)
      rw [hy] at HW2
      obtain ⟨yl, hyl⟩ : ∃ n, y.length = n := ⟨_, rfl⟩
      rw [hyl] at HW2
      clear hy hyl
      go_wp2_with (go_at_call 189; refine HIW.out.mono ?_; rintro en w3 ⟨rfl, hb⟩; have HL3 := Lib.hid (HS.out.1.new HX.out.2 hb); clear hb)
      refine regionL (S := (fun W => W.cell? ⟨Y, 3, none⟩ = some (.slice p n c))) (L := 7) (by kernel_rfl) ?_ (fun hHeld => ?_)
      · exact (by rw [cell_plain (HL3.out.new HX.out.2 (below_drewA w3)).box.box, ← HN.out]; rfl)
      refine takeL (i := 0) (k := 15) (v := ?_) rfl (by kernel_rfl) (by kernel_rfl) (by kernel_rfl) (by kernel_rfl) (fun _ _ _ h => h) (by kernel_rfl) (by kernel_rfl) (by kernel_rfl) (by rfl) ?_ (by assumption) ?_
      rotate_left
      · intro w hSw; (try dsimp only at hSw); go_simp <;> (with_reducible rfl)
      simp only [List.setIfInBounds_toArray, List.set_cons_zero, List.set_cons_succ]
      refine takeL (i := 1) (k := 16) (v := ?_) rfl (by kernel_rfl) (by kernel_rfl) (by kernel_rfl) (by kernel_rfl) (fun _ _ _ h => h) (by kernel_rfl) (by kernel_rfl) (by kernel_rfl) (by rfl) ?_ (by assumption) ?_
      rotate_left
      · intro w hSw; (try dsimp only at hSw); go_simp <;> (with_reducible rfl)
      simp only [List.setIfInBounds_toArray, List.set_cons_zero, List.set_cons_succ]
      refine takeL (i := 2) (k := 17) (v := ?_) rfl (by kernel_rfl) (by kernel_rfl) (by kernel_rfl) (by kernel_rfl) (fun _ _ _ h => h) (by kernel_rfl) (by kernel_rfl) (by kernel_rfl) (by rfl) ?_ (by assumption) ?_
      rotate_left
      · intro w hSw; (try dsimp only at hSw); go_simp <;> (with_reducible rfl)
      simp only [List.setIfInBounds_toArray, List.set_cons_zero, List.set_cons_succ]
      refine nextL (i := 3) (by kernel_rfl) rfl (by kernel_rfl) (fun K hK => ?_)
      go_simp
      go_wp2_with (go_at_call 191; refine (HW2.out _ (HL3.out.new HX.out.2 (below_drewA w3)).box.pr).mono ?_; rintro en w5 ⟨p5, k5, rfl, hu, hs⟩; have HS5 := Lib.hid (And.intro hu ((HL3.out.new HX.out.2 (below_drewA w3)).step HX.out.2 hs (to_word HL3.out.box.pr.good).len)); clear hs hu)
      refine hK.out _ _ ?_ ?_
      · exact .inr (by rw [cell_plain HS5.out.2.box.box, ← HN.out]; rfl)
      clear hK K
      refine nextL (i := 4) (by kernel_rfl) rfl (by kernel_rfl) (fun K hK => ?_)
      refine wp_one elWord (.tmp 18) rfl _ [.slice p5 yl k5] rfl (slice_cel _ _ _) rfl ?_
      refine hK.out _ _ ?_ ?_
      · exact .inr (by rw [cell_plain (HS5.out.2.new HX.out.2 (below_new w5 _)).box.box, ← HN.out]; rfl)
      clear hK K
      simp only [Act.put, List.getElem_toArray, List.getElem_cons_succ, List.getElem_cons_zero, List.setIfInBounds_toArray, List.set_cons_zero, List.set_cons_succ]
      refine nextL (i := 5) (by kernel_rfl) rfl (by kernel_rfl) (fun K hK => ?_)
      refine wp_push elWord (.tmp 16) (.tmp 19) rfl HS5.out.2.row (slice_cel _ _ _) (word_new (C := w5.heap.size) HS5.out.1) (by have := HS5.out.2.box.lt; omega) (fun k hk => (HS5.out.2.row.lt k (.inr hk)).2) (by have := HS5.out.2.few; omega) (by rw [HN.out]; rfl) rfl (by have := HS5.out.2.box.lt; omega) ?_
      intro p6 c6 F6 w6 hr6 _ _ hk6
      have hb6 := HS5.out.2.box.turn HX.out.2 HX.out.1 hk6 (fun k hk => (HS5.out.2.row.lt k (.inr hk)).1)
      have HS6 := Lib.hid (And.intro hr6 hb6)
      clear hr6 hk6 hb6
      refine hK.out _ _ ?_ ?_
      · exact .inr (by rw [cell_plain HS6.out.2.box, ← HN.out]; rfl)
      clear hK K
      simp only [Act.put, List.getElem_toArray, List.getElem_cons_succ, List.getElem_cons_zero, List.setIfInBounds_toArray, List.set_cons_zero, List.set_cons_succ]
      refine takeL (i := 6) (k := 21) (v := ?_) rfl (by kernel_rfl) (by kernel_rfl) (by kernel_rfl) (by kernel_rfl) (fun _ _ _ h => h) (by kernel_rfl) (by kernel_rfl) (by kernel_rfl) (by rfl) ?_ (by rw [cell_plain HS6.out.2.box, ← HN.out]; rfl) ?_
      rotate_left
      · intro w hSw; (try dsimp only at hSw); go_simp <;> (with_reducible rfl)
      simp only [List.setIfInBounds_toArray, List.set_cons_zero, List.set_cons_succ]
      refine nextL (i := 7) (by kernel_rfl) rfl (by kernel_rfl) (fun K hK => ?_)
      have d3 : w6.cell? ⟨Y, 3, none⟩ = some (.slice p n c) := (by rw [cell_plain HS6.out.2.box, ← HN.out]; rfl)
      have e3 : w6.frozen? ⟨Y, 3, none⟩ = false := frozen_plain HS6.out.2.box 3
      go_simp
      refine hK.out _ _ ?_ ?_
      · exact .inl (by kernel_rfl)
      clear hK K
      refine doneL (by kernel_rfl) ?_ _
      have hA := HS6.out.2.set HX.out.2 HX.out.1 3 (.slice p6 (l.length + 1) c6)
      have hr := HS6.out.1.kept (D := fun k => k = Y) ((Kept.refl (fun k => k = Y) w6).setCell (p := ⟨Y, 3, none⟩) (.inl rfl) (.slice p6 (l.length + 1) c6)) (fun k hk => by have := (HS6.out.1.lt k hk).1; omega)
      have hn1 : (l ++ [y]).length = l.length + 1 := by rw [List.length_append]; rfl
      have hlt := word_lt HS.out.1.box.pr.good HI.out
      have hE : EaO w0 w (w6.setCell ⟨Y, 3, none⟩ (.slice p6 (l.length + 1) c6)) X Y tn p6 c6 (css ++ [[.slice p5 yl k5]]) (l ++ [y]) F6 S'.word.2 := ⟨by rw [hn1]; exact hA, by rw [hn1]; exact hr, by rw [hn1]; have := HS.out.1.few; omega⟩
      have HE := Lib.hid hE
      clear hA hr hE
      go_wp2_with fail
      go_roundw
      case rel => exact ⟨f, p6, c6, _, _, F6, _, HE.out, by rw [← HYW.out, ← wordsL_go HI.out]; exact HS.out.2.1, by have := HS.out.2.2; omega⟩
      case measure => rw [HE.out.box.pr.len, HS.out.1.box.pr.len]; exact hlt
    | false =>
      rw [hi] at HIW
      have HE := Lib.hid (show eachM cmd S = (.mk { nd0 with op := [102, 111, 114], name := nm, words := l } [(bodyM cmd S'.sep.2).1], (bodyM cmd S'.sep.2).2) from by rw [HM.out, ← HS.out.2.1, wordsL_end hi])
      clear hi
      go_wp2_with (first
        | (go_at_call 189; refine HIW.out.mono ?_; rintro en w3 ⟨rfl, hb⟩; have HL3 := Lib.hid (HS.out.1.new HX.out.2 hb); clear hb)
        | (go_at_call 78; refine (psep_any HL3.out.box.pr).mono ?_; rintro en w4 ⟨rfl, hs⟩; have HL4 := Lib.hid (HL3.out.step HX.out.2 hs (to_sep HL3.out.box.pr.good).len); clear hs))
      refine regionL (S := (fun W => W.heap[Y]? = some (.cells (ndC ⟨#[102, 111, 114]⟩ tn (.slice p n c) (.slice none 0 0) (.slice none 0 0) (.slice none 0 0)).toArray 44 (0, 0)))) (L := 6) (by kernel_rfl) ?_ (fun hHeld => ?_)
      · exact (by rw [← HN.out]; exact (HL4.out.new HX.out.2 (below_drewA w4)).box.box)
      refine takeL (i := 0) (k := 24) (v := .agg (ndC ⟨#[102, 111, 114]⟩ tn (.slice p n c) (.slice none 0 0) (.slice none 0 0) (.slice none 0 0)).toArray) rfl (by kernel_rfl) (by kernel_rfl) (by kernel_rfl) (by kernel_rfl) (fun _ _ _ h => h) (by kernel_rfl) (by kernel_rfl) (by kernel_rfl) (by rfl) ?_ (by assumption) ?_
      · intro w hSw; exact exec_load_row _ 44 (.tmp 5) rfl Y rfl 44 (ndC ⟨#[102, 111, 114]⟩ tn (.slice p n c) (.slice none 0 0) (.slice none 0 0) (.slice none 0 0)).toArray (0, 0) _ hSw Tryz.underlying44 rfl (by rw [nd_info]; rfl)
      simp only [List.setIfInBounds_toArray, List.set_cons_zero, List.set_cons_succ]
      refine takeL (i := 1) (k := 25) (v := ?_) rfl (by kernel_rfl) (by kernel_rfl) (by kernel_rfl) (by kernel_rfl) (fun _ _ _ h => h) (by kernel_rfl) (by kernel_rfl) (by kernel_rfl) (by rfl) ?_ (by assumption) ?_
      rotate_left
      · intro w hSw; (try dsimp only at hSw); go_simp <;> (with_reducible rfl)
      simp only [List.setIfInBounds_toArray, List.set_cons_zero, List.set_cons_succ]
      refine takeL (i := 2) (k := 26) (v := ?_) rfl (by kernel_rfl) (by kernel_rfl) (by kernel_rfl) (by kernel_rfl) (fun _ _ _ h => h) (by kernel_rfl) (by kernel_rfl) (by kernel_rfl) (by rfl) ?_ (by assumption) ?_
      rotate_left
      · intro w hSw; (try dsimp only at hSw); go_simp <;> (with_reducible rfl)
      simp only [List.setIfInBounds_toArray, List.set_cons_zero, List.set_cons_succ]
      refine nextL (i := 3) (by kernel_rfl) rfl (by kernel_rfl) (fun K hK => ?_)
      go_simp
      go_wp2_with (go_at_call 195; rw [← HD.out]; refine (HBD.out _ X _ (HL4.out.new HX.out.2 (below_drewA w4)).box.pr).mono ?_; rintro en w7 ⟨c7, rfl, hcel, hnew, hs⟩; rw [HD.out]; have HA7 := Lib.hid (And.intro ((HL4.out.new HX.out.2 (below_drewA w4)).box.step HX.out.2 hs) (HL4.out.row.kept (((Kept.of_below (below_drewA w4))).on hs.2) (fun k hk => by have := (HL4.out.row.lt k hk).1; have := HL4.out.box.base; have := HX.out; omega))); have HS7 := Lib.hid (And.intro hcel (And.intro hnew hs.2.size)); clear hcel hnew hs)
      refine hK.out _ _ ?_ ?_
      · exact .inr (by rw [← HN.out]; exact HA7.out.1.box)
      clear hK K
      refine nextL (i := 4) (by kernel_rfl) rfl (by kernel_rfl) (fun K hK => ?_)
      refine wp_one elNode (.tmp 27) rfl _ c7 rfl HS7.out.1 rfl ?_
      refine hK.out _ _ ?_ ?_
      · exact .inr (by rw [← HN.out]; exact (HA7.out.1.new HX.out.2 (below_new w7 _)).box)
      clear hK K
      simp only [Act.put, List.getElem_toArray, List.getElem_cons_succ, List.getElem_cons_zero, List.setIfInBounds_toArray, List.set_cons_zero, List.set_cons_succ]
      refine nextL (i := 5) (by kernel_rfl) rfl (by kernel_rfl) (fun K hK => ?_)
      refine wp_build2 56 0 1 (.tmp 24) (.tmp 28) rfl (.agg (ndC ⟨#[102, 111, 114]⟩ tn (.slice p n c) (.slice none 0 0) (.slice none 0 0) (.slice none 0 0)).toArray) (.slice (some ⟨w7.heap.size, 0, none⟩) 1 1) (nkC ⟨#[102, 111, 114]⟩ tn (.slice p n c) (.slice none 0 0) (.slice none 0 0) (.slice none 0 0) (.slice (some ⟨w7.heap.size, 0, none⟩) 1 1)).toArray rfl rfl (built_nk _ _ _ _ _ _ _ _ _ _ _ _ _ _ _ _ _) ?_
      refine hK.out _ _ ?_ ?_
      · exact .inr (by rw [← HN.out]; exact (HA7.out.1.new HX.out.2 (below_new w7 _)).box)
      clear hK K
      simp only [Act.put, List.getElem_toArray, List.getElem_cons_succ, List.getElem_cons_zero, List.setIfInBounds_toArray, List.set_cons_zero, List.set_cons_succ]
      refine nextL (i := 6) (by kernel_rfl) rfl (by kernel_rfl) (fun K hK => ?_)
      refine wp_store_row 56 (.tmp 4) (.tmp 29) rfl w.heap.size (nkC ⟨#[102, 111, 114]⟩ tn (.slice p n c) (.slice none 0 0) (.slice none 0 0) (.slice none 0 0) (.slice (some ⟨w7.heap.size, 0, none⟩) 1 1)).toArray rfl rfl 56 zeroN.toArray (HA7.out.1.new HX.out.2 (below_new w7 _)).zero (by rw [node_info]; rfl) rfl (all_oneCell_toArray (nkC_cel _ _ _ _ _ _ _ _ _ _ _ _ _ _ _ _ _).2) ?_
      refine hK.out _ _ ?_ ?_
      · exact .inl (by kernel_rfl)
      clear hK K
      simp only [Act.put, List.getElem_toArray, List.getElem_cons_succ, List.getElem_cons_zero]
      refine doneL (by kernel_rfl) ?_ _
      go_wp2_with fail
      (try simp only [Exit.inBlock, Exit.then])
      refine bodyPost_ret (ret_tree rfl (setRow_heap (w7.alloc (.cells c7.toArray 56)) w.heap.size zeroN.toArray _ 56 (0, 0) (HA7.out.1.new HX.out.2 (below_new w7 _)).zero) (nkC_cel _ _ _ _ _ _ _ _ _ _ _ _ _ _ _ _ _) rfl) rfl ?_
      rw [HE.out]
      have hYb := HL4.out.box.base
      have hY4 := HL4.out.box.lt
      have hY7 := HA7.out.1.lt
      have hs7 := HS7.out.2.2
      obtain ⟨F1, hr, -⟩ := RowG.one (w0 := w0) (w := w7) (e := 56) (B := w.heap.size + 1) HS7.out.1 HS7.out.2.1 (by show w.heap.size + 1 ≤ w4.heap.size; omega) (by omega)
      have hws := (HA7.out.2.sl (by have := HL4.out.few; unfold maxLen; omega)).kept (D := fun _ => False) (Kept.of_below (below_new w7 (.cells c7.toArray 56))) (fun _ _ _ h => h)
      have ht := Kids.tree hr (n := { nd0 with op := [102, 111, 114], name := nm, words := l }) (cs := (ndC ⟨#[102, 111, 114]⟩ tn (.slice p n c) (.slice none 0 0) (.slice none 0 0) (.slice none 0 0))) (by simp [maxLen]) ((hws.base (by omega)).imp fun W hW => ⟨rfl, _, _, _, _, by rw [← HTN.out]; rfl, by rw [← HN.out]; exact hW, SlAt.nil _ _ _ _, SlAt.nil _ _ _ _, SlAt.nil _ _ _ _⟩)
      exact (HA7.out.1.new HX.out.2 (below_new w7 _)).retR HX.out.2 HX.out.1 (nkC_cel _ _ _ _ _ _ _ _ _ _ _ _ _ _ _ _ _) rfl rfl ht
end Go.Proofs.YtakceggnadagmaaGreatDoor
