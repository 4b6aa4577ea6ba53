/-
  Proved: texts joined: Proved: contracts of a parser's of and several. Conditions: the kids lie in memory.
  Proved: how the walk goes over a row literal of one and over an append of one, whatever the cells are. Conditions: as each says.
  Proved: the contract of a parser's pipe, of whatever commands. Conditions: the reader lies in memory.
-/
import Derived.Test.YtakceggnadagmaaGreatDoorPj08
import Derived.Deep.AppendLies
namespace Go.Proofs.YtakceggnadagmaaGreatDoor
open Go Go.RowKit GlyphMath LexMath TreeMath ParseMath

/-- A node of that Op and of nothing but kids, by its cells. -/
def ofC (o : ByteArray) (v : Value) : List Value := [.string o, .string ⟨#[]⟩, .slice none 0 0, .slice none 0 0, .slice none 0 0, .slice none 0 0, .slice none 0 0, v]
/-- A tree that is none. -/
def zeroN : List Value := ofC ⟨#[]⟩ (.slice none 0 0)
theorem ofC_cel (o : ByteArray) (p : Option Addr) (n c : Nat) : Cel 8 (ofC o (.slice p n c)) := ⟨rfl, fun v hv => by
  simp only [ofC, List.mem_cons, List.not_mem_nil, or_false] at hv
  rcases hv with rfl | rfl | rfl | rfl | rfl | rfl | rfl | rfl <;> rfl⟩
theorem ndc_of (w : World) (op : List UInt8) : NdC w { nd0 with op := op } [txt op, txt [], .slice none 0 0, .slice none 0 0, .slice none 0 0, .slice none 0 0, .slice none 0 0] :=
  ⟨rfl, _, _, _, _, rfl, SlAt.nil _ _ _ _, SlAt.nil _ _ _ _, SlAt.nil _ _ _ _, SlAt.nil _ _ _ _⟩
theorem of_tree {w0 w : World} {B : Nat} {v : Value} {css : List (List Value)} {l : List Tr} {F : Nat → Prop} (h : Kids w0 w B v css l F) (hm : l.length ≤ maxLen) (op : List UInt8) : NewAt w0 w B fun W => TrC W (ofC (T op) v) (trOf op l) :=
  h.tree hm (NewAt.of0 fun W _ => ndc_of W op)
theorem of_stays {w0 w : World} {B : Nat} {v : Value} {css : List (List Value)} {l : List Tr} {F : Nat → Prop} (h : Kids w0 w B v css l F) (hm : l.length ≤ maxLen) (op : List UInt8) : Stays w0 w (fun k => F k ∨ v.ownBlock = some k) fun W => TrC W (ofC (T op) v) (trOf op l) :=
  (h.stays hm (Stays.of0 fun W _ => ndc_of W op)).mono fun _ hk => hk.elim (fun h => h.elim) id

theorem of_any (o : ByteArray) (p : Option Addr) (n c : Nat) (w : World) :
    Calls Tryz.prog 106 #[.string o, .slice p n c] w fun e w' => e = .returned (.agg (ofC o (.slice p n c)).toArray) ∧ Below w.heap.size w w' := by
  have HB := Lib.hid (below_new w)
  go_enter Tryz.func106, Tryz.ntmps106
  go_wp2_with fail
  (try simp only [Exit.inBlock, Exit.then])
  refine bodyPost_ret (ret_tree (cs := ofC o (.slice p n c)) rfl (heap_alloc_new w _) (ofC_cel _ _ _ _) rfl) rfl ?_
  exact ⟨rfl, HB.out _⟩

theorem several_one (op : List UInt8) (t : Tr) : several op [t] = t := rfl
theorem several_more (op : List UInt8) (l : List Tr) (h : l.length ≠ 1) : several op l = trOf op l := by
  match l, h with
  | [], _ => rfl
  | [_], h => exact absurd rfl h
  | _ :: _ :: _, _ => rfl
set_option maxHeartbeats 1000000 in
theorem several_any {w0 w : World} {B : Nat} {css : List (List Value)} {l : List Tr} {F : Nat → Prop} {p : Option Addr} {c : Nat} (h : Kids w0 w B (.slice p l.length c) css l F) (hm : l.length ≤ maxLen) (op : List UInt8) :
    Calls Tryz.prog 80 #[.string (T op), .slice p l.length c] w fun e w' => ∃ cs, e = .returned (.agg cs.toArray) ∧ Cel 8 cs ∧ NewAt w0 w' B (fun W => TrC W cs (several op l)) ∧ Below w.heap.size w w' := by
  have HB := Lib.hid (below_new w)
  obtain ⟨o, ho⟩ : ∃ o, T op = o := ⟨_, rfl⟩
  by_cases h1 : l.length = 1
  · obtain ⟨t, rfl⟩ := List.length_eq_one_iff.1 h1
    obtain ⟨cs, rfl⟩ := List.length_eq_one_iff.1 (h.len.trans h1)
    obtain ⟨g, c', hv, hc⟩ := h.spot (k := 0) rfl
    simp only [Value.slice.injEq, true_and] at hv
    obtain ⟨rfl, rfl⟩ := hv
    have hcel : Cel 8 cs := h.each cs (by simp)
    have hnew : NewAt w0 w B fun W => TrC W cs t := ⟨F, fun k hk => ⟨(h.far k hk).1, (h.far k hk).2.1⟩, h.sub 0 cs t rfl rfl⟩
    rw [several_one, ho]
    have HR := Lib.hid (show ∀ o, (w.alloc o).rangeAt g 0 cs from fun o j v hv => by
      have := hc j v hv
      rw [Nat.zero_mul] at this
      exact cell_alloc this o)
    have HN := Lib.hid hnew
    have HC := Lib.hid hcel
    show Calls _ _ #[.string o, .slice (some ⟨g, 0, none⟩) 1 c] _ _
    clear h hm h1 ho hc hcel hnew
    go_enter Tryz.func80, Tryz.ntmps80
    go_wp2_with (first
      | (refine wpList_load_mid (by rfl) 56 (.tmp 9) (by rfl) g 0 (by rfl) cs _ (HR.out _) Tryz.underlying56 rfl (by rw [node_info, HC.out.1]) ?_)
      | (refine wpList_store_row (by rfl) 56 (.tmp 4) (.tmp 10) (by rfl) w.heap.size cs.toArray (by rfl) (by rfl) 56 zeroN.toArray (heap_alloc_new w _) (by rw [node_info]; simp [HC.out.1]) (by simp [HC.out.1, zeroN, ofC]) (all_oneCell_toArray HC.out.2) ?_))
    (try simp only [Exit.inBlock, Exit.then])
    have hz := setRow_heap (w.alloc (.cells zeroN.toArray 56)) w.heap.size zeroN.toArray cs.toArray 56 (0, 0) (heap_alloc_new w _)
    refine bodyPost_ret (ret_tree rfl hz HC.out rfl) rfl ?_
    have hk := kept_row (HB.out (.cells zeroN.toArray 56)) (Nat.le_refl w.heap.size) cs.toArray
    refine ⟨cs, rfl, HC.out, HN.out.kept (D := fun i => w.heap.size ≤ i) hk (fun k _ hk => by omega), ⟨hk.os, hk.tape, hk.output, hk.size, fun k hk' => hk.block k hk' (by omega)⟩⟩
  · have HO := Lib.hid (of_any o p l.length c)
    have HT := Lib.hid (of_tree h hm op)
    rw [several_more op l h1, ho] at *
    obtain ⟨N, hN⟩ : ∃ N, l.length = N := ⟨_, rfl⟩
    rw [hN] at HO HT h1 ⊢
    have hn : ((N : Int) == 1) = false := by
      have : ¬ (N : Int) = 1 := by omega
      simpa using this
    clear h hm ho hN h1
    go_enter Tryz.func80, Tryz.ntmps80
    go_wp2_with (first
      | (go_at_call 106; refine (HO.out _).mono ?_; rintro en w1 ⟨rfl, hb1⟩; have hz := (hb1.block w.heap.size (by simp)).trans (heap_alloc_new w _); have HB1 := Lib.hid (And.intro ((HB.out _).trans (hb1.mono (HB.out _).size)) hz); clear hb1 hz)
      | (refine wpList_store_row (by rfl) 56 (.tmp 4) (.tmp 13) (by rfl) w.heap.size (ofC o (.slice p N c)).toArray (by rfl) (by rfl) 56 zeroN.toArray HB1.out.2 (by rw [node_info]; rfl) rfl (all_oneCell_toArray (ofC_cel _ _ _ _).2) ?_))
    (try simp only [Exit.inBlock, Exit.then])
    have hz := setRow_heap w1 w.heap.size zeroN.toArray (ofC o (.slice p N c)).toArray 56 (0, 0) HB1.out.2
    refine bodyPost_ret (ret_tree rfl hz (ofC_cel _ _ _ _) rfl) rfl ?_
    have hk := kept_row HB1.out.1 (Nat.le_refl w.heap.size) (ofC o (.slice p N c)).toArray
    refine ⟨_, rfl, ofC_cel _ _ _ _, HT.out.kept (D := fun i => w.heap.size ≤ i) hk (fun k _ hk => by omega), ⟨hk.os, hk.tape, hk.output, hk.size, fun k hk' => hk.block k hk' (by omega)⟩⟩
end Go.Proofs.YtakceggnadagmaaGreatDoor

namespace Go.Proofs.YtakceggnadagmaaGreatDoor
open Go Go.RowKit GlyphMath LexMath TreeMath ParseMath

/-- The types of a row and of its elements. -/
structure ElT (t e sz bytes : Nat) : Prop where
  und : Tryz.prog.underlying t = some (.slice e)
  info : ∃ i z, Tryz.prog.info? e = some i ∧ i.zero = some z ∧ i.size = sz ∧ i.bytes = bytes ∧ z.cells.size = sz
  pos : 0 < sz
  small : sz ≤ 100 ∧ bytes ≤ 1000
theorem elT_of {t e sz bytes : Nat} {z : Value} (hu : Tryz.prog.underlying t = some (.slice e)) (hi : (Tryz.prog.info? e).map (fun i => (i.zero, i.size, i.bytes)) = some (some z, sz, bytes)) (hz : z.cells.size = sz) (hp : 0 < sz) (hs : sz ≤ 100 ∧ bytes ≤ 1000) : ElT t e sz bytes := by
  obtain ⟨i, h1, h2, h3, h4⟩ := info_parts hi
  exact ⟨hu, ⟨i, z, h1, h2, h3, h4, hz⟩, hp, hs⟩
theorem elNode : ElT 54 56 8 176 := elT_of (z := .agg zeroN.toArray) Tryz.underlying54 (by kernel_rfl) rfl (by decide) (by decide)
theorem elWord : ElT 39 70 1 24 := elT_of (z := .agg #[.slice none 0 0]) Tryz.underlying39 (by kernel_rfl) rfl (by decide) (by decide)
theorem elWords : ElT 40 39 1 24 := elT_of (z := .slice none 0 0) Tryz.underlying40 (by kernel_rfl) rfl (by decide) (by decide)
theorem elRedir : ElT 42 103 2 40 := elT_of (z := .agg #[.string ⟨#[]⟩, .slice none 0 0]) Tryz.underlying42 (by kernel_rfl) rfl (by decide) (by decide)
theorem elAssign : ElT 41 105 2 40 := elT_of (z := .agg #[.string ⟨#[]⟩, .slice none 0 0]) Tryz.underlying41 (by kernel_rfl) rfl (by decide) (by decide)
theorem elPart : ElT 68 113 5 72 := elT_of (z := .agg #[.int .i64 0, .string ⟨#[]⟩, .string ⟨#[]⟩, .slice none 0 0, .bool false]) Tryz.underlying68 (by kernel_rfl) rfl (by decide) (by decide)

theorem fill_one {sz : Nat} (hs : 0 < sz) (v : Value) (zs : Array Value) (cs : List Value) (hv : v.cells = cs.toArray) (hc : cs.length = sz) (hz : zs.size = sz) : Instr.fill (fun i => some (i * sz, sz)) zs [(0, v)] = some cs.toArray := by
  have h := Great.fill_whole hs [v] zs (fun u hu => by
    have hu : u = v := by simpa using hu
    rw [hu, hv]
    simp [hc]) (by simp [hz])
  simp only [List.zipIdx_cons, List.zipIdx_nil, List.map_cons, List.map_nil, List.flatMap_cons, List.flatMap_nil, List.append_nil, hv] at h
  exact h

section
variable {t e sz bytes : Nat} (hT : ElT t e sz bytes)
include hT
/-- A row literal of one. -/
theorem wpList_one {ops : Array Oper} {rest : List Oper} {o : Oper} {a : Act} {w : World} {Q : Exit → Act → World → Prop} (hg : o.guard = none) (x : Operand) (ho : o.op = .buildSlice t 1 #[(0, x)]) (v : Value) (cs : List Value) (hv : v.cells = cs.toArray) (hc : Cel sz cs) (hx : a.eval x = v)
    (h : wpList Tryz.prog ops Q rest (a.put o.dst (.slice (some ⟨w.heap.size, 0, none⟩) 1 1)) (w.alloc (.cells cs.toArray e))) : wpList Tryz.prog ops Q (o :: rest) a w := by
  obtain ⟨i, z, h1, h2, h3, h4, h5⟩ := hT.info
  have hp := hT.pos
  have hs := hT.small
  refine wpList_buildSlice hg t e 1 #[(0, x)] ho cs.toArray i z hT.und h1 h2 (by rw [h3]; omega) (by rw [h3]; omega) ?_ h
  rw [h3]
  rw [show (#[(0, x)].map fun (i, x) => (i, a.eval x)).toList = [(0, v)] by simp [hx]]
  exact fill_one hp v _ cs hv hc.1 (by simp)
/-- The same, at an operation by itself. -/
theorem wp_one {o : Oper} {a : Act} {w : World} {K : Act → World → Prop} {Q : Exit → Act → World → Prop} (x : Operand) (ho : o.op = .buildSlice t 1 #[(0, x)]) (v : Value) (cs : List Value) (hv : v.cells = cs.toArray) (hc : Cel sz cs) (hx : a.eval x = v)
    (h : K (a.put o.dst (.slice (some ⟨w.heap.size, 0, none⟩) 1 1)) (w.alloc (.cells cs.toArray e))) : o.wp Tryz.prog a w K Q := by
  obtain ⟨i, z, h1, h2, h3, h4, h5⟩ := hT.info
  have hp := hT.pos
  have hs := hT.small
  refine wp_buildSlice t e 1 #[(0, x)] ho cs.toArray i z hT.und h1 h2 (by rw [h3]; omega) (by rw [h3]; omega) ?_ h
  rw [h3]
  rw [show (#[(0, x)].map fun (i, x) => (i, a.eval x)).toList = [(0, v)] by simp [hx]]
  exact fill_one hp v _ cs hv hc.1 (by simp)
/-- A row literal of two. -/
theorem wp_two {o : Oper} {a : Act} {w : World} {K : Act → World → Prop} {Q : Exit → Act → World → Prop} (x y : Operand) (ho : o.op = .buildSlice t 2 #[(0, x), (1, y)]) (v u : Value) (cs ds : List Value) (hv : v.cells = cs.toArray) (hu : u.cells = ds.toArray) (hc : Cel sz cs) (hd : Cel sz ds) (hx : a.eval x = v) (hy : a.eval y = u)
    (h : K (a.put o.dst (.slice (some ⟨w.heap.size, 0, none⟩) 2 2)) (w.alloc (.cells (cs ++ ds).toArray e))) : o.wp Tryz.prog a w K Q := by
  obtain ⟨i, z, h1, h2, h3, h4, h5⟩ := hT.info
  have hp := hT.pos
  have hs := hT.small
  refine wp_buildSlice t e 2 #[(0, x), (1, y)] ho (cs ++ ds).toArray i z hT.und h1 h2 (by rw [h3]; omega) (by rw [h3]; omega) ?_ h
  rw [h3]
  rw [show (#[(0, x), (1, y)].map fun (i, x) => (i, a.eval x)).toList = [(0, v), (1, u)] by simp [hx, hy]]
  have h := Great.fill_whole hp [v, u] ((Array.range (2 * sz)).map (z.cells[· % z.cells.size]!)) (fun b hb => by
    simp only [List.mem_cons, List.not_mem_nil, or_false] at hb
    rcases hb with rfl | rfl
    · rw [hv]; simp [hc.1]
    · rw [hu]; simp [hd.1]) (by simp)
  simp only [List.zipIdx_cons, List.zipIdx_nil, List.map_cons, List.map_nil, List.flatMap_cons, List.flatMap_nil, List.append_nil, hv, hu] at h
  exact h
/-- An append of one that was just made, at an operation by itself. -/
theorem wp_push {α : Type} {P : World → List Value → α → Prop} {o : Oper} {a : Act} {K : Act → World → Prop} {Q : Exit → Act → World → Prop} (s x : Operand)
    (ho : o.op = .call { callee := .builtin .append, args := #[s, x], argTypes := #[t, t] }) {w0 w : World} {B C c : Nat} {p : Option Addr} {css : List (List Value)} {l : List α} {F : Nat → Prop} {cs : List Value} {y : α}
    (hr : RowG w0 w e sz P B (.slice p l.length c) css l F) (hcs : Cel sz cs) (hy : NewAt w0 w C fun W => P W cs y) (hB : B ≤ C) (hC : ∀ k, (Value.slice p l.length c).ownBlock = some k → k < C) (hl : l.length ≤ 100000)
    (hs : a.eval s = .slice p l.length c) (hx : a.eval x = .slice (some ⟨w.heap.size, 0, none⟩) 1 1) (hBw : B ≤ w.heap.size)
    (h : ∀ p' c' F' w', RowG w0 w' e sz P B (.slice p' (l.length + 1) c') (css ++ [cs]) (l ++ [y]) F' → (∀ k, F' k → F k ∨ (C ≤ k ∧ k < w.heap.size)) → ((Value.slice p' (l.length + 1) c').ownBlock = (Value.slice p l.length c).ownBlock ∨ ∀ k, (Value.slice p' (l.length + 1) c').ownBlock = some k → w.heap.size ≤ k) →
      Kept (fun k => (Value.slice p l.length c).ownBlock = some k) w w' → K (a.put o.dst (.slice p' (l.length + 1) c')) w') :
    o.wp Tryz.prog a (w.alloc (.cells cs.toArray e)) K Q := by
  obtain ⟨i, z, h1, h2, h3, h4, h5⟩ := hT.info
  have hsm := hT.small
  have hm : (l.length + 1) * bytes ≤ 100001 * 1000 := Nat.mul_le_mul (by omega) hsm.2
  have hsz : (w.alloc (.cells cs.toArray e)).heap.size = w.heap.size + 1 := by simp
  refine wp_append_lies _ s x t ho B e i z sz bytes hT.und h1 h2 h3 h4 h5 hT.pos (.slice p l.length c) l.length css.flatten hs (hr.own.alloc _) ⟨w.heap.size, 0, none⟩ 1 1 cs hx (by rw [hcs.1]; omega) (fun j u hu => World.news_of_block (heap_alloc_new w _) j u (by simpa using hu)) hcs.2 (by omega) (by unfold maxLen; omega) (by omega) (by rw [hsz]; omega) (w.heap.size + 1) hsz ?_
  intro g cap w' hown hgrow hat hlt
  obtain ⟨F', hF, hF'⟩ := hr.add hcs hy hB hC (w1 := w.alloc (.cells cs.toArray e)) ((Kept.of_below (below_new w _))) hown hgrow (hat.imp id fun e => by omega)
  refine h _ _ F' w' hF hF' (hat.imp (fun e => e.symm) fun e k hk => ?_) ?_
  · have e' : g = k := by simpa [Value.ownBlock] using hk
    omega
  · exact (Kept.of_below (below_new w (.cells cs.toArray e))).grown hgrow fun k hk => .inl hk
/-- An append of one that was just made. -/
theorem wpList_push {α : Type} {P : World → List Value → α → Prop} {ops : Array Oper} {rest : List Oper} {o : Oper} {a : Act} {Q : Exit → Act → World → Prop} (hgd : o.guard = none) (s x : Operand)
    (ho : o.op = .call { callee := .builtin .append, args := #[s, x], argTypes := #[t, t] }) {w0 w : World} {B C c : Nat} {p : Option Addr} {css : List (List Value)} {l : List α} {F : Nat → Prop} {cs : List Value} {y : α}
    (hr : RowG w0 w e sz P B (.slice p l.length c) css l F) (hcs : Cel sz cs) (hy : NewAt w0 w C fun W => P W cs y) (hB : B ≤ C) (hC : ∀ k, (Value.slice p l.length c).ownBlock = some k → k < C) (hl : l.length ≤ 100000)
    (hs : a.eval s = .slice p l.length c) (hx : a.eval x = .slice (some ⟨w.heap.size, 0, none⟩) 1 1) (hBw : B ≤ w.heap.size)
    (h : ∀ p' c' F' w', RowG w0 w' e sz P B (.slice p' (l.length + 1) c') (css ++ [cs]) (l ++ [y]) F' → (∀ k, F' k → F k ∨ (C ≤ k ∧ k < w.heap.size)) → ((Value.slice p' (l.length + 1) c').ownBlock = (Value.slice p l.length c).ownBlock ∨ ∀ k, (Value.slice p' (l.length + 1) c').ownBlock = some k → w.heap.size ≤ k) →
      Kept (fun k => (Value.slice p l.length c).ownBlock = some k) w w' → wpList Tryz.prog ops Q rest (a.put o.dst (.slice p' (l.length + 1) c')) w') :
    wpList Tryz.prog ops Q (o :: rest) a (w.alloc (.cells cs.toArray e)) :=
  wpList_plain hgd fun _ hK => wp_push hT s x ho hr hcs hy hB hC hl hs hx hBw fun p' c' F' w' h1 h2 h3 h4 => hK _ _ (h p' c' F' w' h1 h2 h3 h4)
end
end Go.Proofs.YtakceggnadagmaaGreatDoor

namespace Go.Proofs.YtakceggnadagmaaGreatDoor
open Go Go.RowKit GlyphMath LexMath TreeMath ParseMath

/-- The call takes a tree as that model does, within so many commands. -/
def CallDo (w0 : World) (f : FuncId) (cmd : Do) (d : Nat) : Prop := ∀ (w : World) (X : Nat) (S : PS), Pr w0 w X S → Calls Tryz.prog f #[.pointer (some ⟨X, 0, none⟩), .int .i64 (d : Int)] w fun e w' => TrEnd w0 w w' e X (cmd S)
def ZN : Obj := .cells zeroN.toArray 56
/-- A row of trees in a loop: R is the result's block, B where the row may begin. -/
structure LpO (w0 w wr : World) (X : Nat) (p : Option Addr) (c : Nat) (css : List (List Value)) (l : List Tr) (F : Nat → Prop) (S : PS) : Prop where
  row : Kids w0 wr (w.heap.size + 1) (.slice p l.length c) css l F
  pr : Pr w0 wr X S
  zero : wr.heap[w.heap.size]? = some ZN
  kept : Kept (fun k => k = X) w wr
  few : l.length + S.ts.length ≤ 4002
theorem LpO.size {w0 w wr : World} {X : Nat} {p : Option Addr} {c : Nat} {css : List (List Value)} {l : List Tr} {F : Nat → Prop} {S : PS} (h : LpO w0 w wr X p c css l F S) : w.heap.size + 1 ≤ wr.heap.size := (Array.getElem?_eq_some_iff.1 h.zero).1
/-- A call that takes tokens, beside the row. -/
theorem LpO.step {w0 w wr w1 : World} {X : Nat} {p : Option Addr} {c : Nat} {css : List (List Value)} {l : List Tr} {F : Nat → Prop} {S S' : PS} (h : LpO w0 w wr X p c css l F S) (hX : X < w.heap.size) (hs : PStep w0 wr w1 X S') (hl : S'.ts.length ≤ S.ts.length) : LpO w0 w w1 X p c css l F S' :=
  ⟨h.row.kept hs.2 (fun k hk => by have := (h.row.lt k hk).1; omega), hs.1, hs.2.heap h.zero (by omega), h.kept.on hs.2, by have := h.few; omega⟩
/-- One tree more. -/
theorem LpO.push {w0 w wr w1 : World} {X : Nat} {p p' : Option Addr} {c c' : Nat} {css : List (List Value)} {l : List Tr} {F F' : Nat → Prop} {S : PS} {cs : List Value} {y : Tr} (h : LpO w0 w wr X p c css l F S) (hX : X < w.heap.size) (hX0 : w0.heap.size ≤ X)
    (hr : Kids w0 w1 (w.heap.size + 1) (.slice p' (l.length + 1) c') (css ++ [cs]) (l ++ [y]) F') (hk : Kept (fun k => (Value.slice p l.length c).ownBlock = some k) wr w1) (hf : l.length + 1 + S.ts.length ≤ 4002) : LpO w0 w w1 X p' c' (css ++ [cs]) (l ++ [y]) F' S := by
  have hb : ∀ k, (Value.slice p l.length c).ownBlock = some k → w.heap.size + 1 ≤ k := fun k hk => (h.row.lt k (.inr hk)).1
  refine ⟨by rw [List.length_append]; exact hr, h.pr.kept hk (fun e => by have := hb _ e; omega) (fun k e => by have := hb _ e; omega), hk.heap h.zero (fun e => by have := hb _ e; omega), h.kept.trans hk fun i hi => .inr (by have := hb _ hi; omega), by rw [List.length_append]; simpa [Nat.add_comm, Nat.add_left_comm, Nat.add_assoc] using hf⟩

/-- What a call answers whose result was just stored. -/
theorem LpO.ret {w0 w w3 w4 : World} {X : Nat} {p : Option Addr} {c : Nat} {css : List (List Value)} {l : List Tr} {F : Nat → Prop} {S : PS} (h : LpO w0 w w3 X p c css l F S) (hX : X < w.heap.size) (hX0 : w0.heap.size ≤ X) {cs : List Value} {t : Tr} (hb : Below w3.heap.size w3 w4) (hc : Cel 8 cs) (hn : NewAt w0 w4 (w.heap.size + 1) fun W => TrC W cs t) :
    TrEnd w0 w (w4.setRow w.heap.size cs.toArray) (.returned (.agg cs.toArray)) X (t, S) := by
  have hk := kept_row0 w4 w.heap.size cs.toArray
  exact ⟨cs, rfl, hc, (hn.kept hk (fun k h1 h2 => by omega)).base (by omega), (h.pr.new hb).kept hk (by omega) (fun i hi => by omega), (h.kept.on (Kept.of_below hb)).trans hk fun i hi => .inr (by omega)⟩
theorem pipeL_go {cmd : Do} {f : Nat} {l : List Tr} {S : PS} (h : S.is [124] = true) : pipeL cmd (f + 1) l S = pipeL cmd f (l ++ [(cmd S.take.lines).1]) (cmd S.take.lines).2 := by rw [pipeL, if_pos h]
theorem pipeL_end {cmd : Do} {f : Nat} {l : List Tr} {S : PS} (h : S.is [124] = false) : pipeL cmd (f + 1) l S = (l, S) := by rw [pipeL, if_neg (by rw [h]; decide)]

theorem notz_heap {w w4 w5 w6 : World} {o1 o2 z : Obj} (h5 : w5 = (w4.alloc o1).alloc o2) (hb : Below w5.heap.size w5 w6) (hz : w4.heap[w.heap.size]? = some z) : w6.heap[w.heap.size]? = some z := by
  have h1 := (Array.getElem?_eq_some_iff.1 hz).1
  have h2 : w5.heap.size = w4.heap.size + 2 := by rw [h5]; simp
  rw [hb.block _ (by omega), h5, Below.heap_alloc _ _ _ (by simp; omega), Below.heap_alloc _ _ _ h1]
  exact hz
set_option maxHeartbeats 4000000 in
set_option maxRecDepth 4000 in
theorem ppipe_any {w0 : World} {cmd : Do} {d : Nat} (hok : DoOk cmd) (hc : CallDo w0 130 cmd d) : CallDo w0 103 (pipeM cmd) d := by
  intro w X S h
  have HB := Lib.hid (below_new w)
  have HX := Lib.hid h.base
  have HZ := Lib.hid (show (w.alloc ZN).heap[w.heap.size]? = some ZN from heap_alloc_new w ZN)
  have HT := Lib.hid (ptakes_any (h.new (below_new w ZN)) [33])
  have HG := Lib.hid h.good
  have HM := Lib.hid (show pipeM cmd S = ((if (S.takes [33]).1 then trOf [110, 111, 116] [several [112, 105, 112, 101] (pipeL cmd (cmd (S.takes [33]).2).2.ts.length [(cmd (S.takes [33]).2).1] (cmd (S.takes [33]).2).2).1] else several [112, 105, 112, 101] (pipeL cmd (cmd (S.takes [33]).2).2.ts.length [(cmd (S.takes [33]).2).1] (cmd (S.takes [33]).2).2).1), (pipeL cmd (cmd (S.takes [33]).2).2.ts.length [(cmd (S.takes [33]).2).1] (cmd (S.takes [33]).2).2).2) from rfl)
  have HG1 := Lib.hid (to_takes h.good [33])
  obtain ⟨b, hb⟩ : ∃ b, (S.takes [33]).1 = b := ⟨_, rfl⟩
  obtain ⟨S1, hS1⟩ : ∃ S1, (S.takes [33]).2 = S1 := ⟨_, rfl⟩
  rw [hb, hS1] at HM HT
  rw [hS1] at HG1
  obtain ⟨q, hq⟩ : ∃ q, pipeL cmd (cmd S1).2.ts.length [(cmd S1).1] (cmd S1).2 = q := ⟨_, rfl⟩
  rw [hq] at HM
  have HQ := Lib.hid hq
  have HC := Lib.hid hc
  obtain ⟨D, hD⟩ : ∃ D : Int, (d : Int) = D := ⟨_, rfl⟩
  have HD := Lib.hid hD
  rw [hD]
  clear h hb hS1 hq hc hD
  go_enter Tryz.func103, Tryz.ntmps103
  go_wp2_with (first
    | (go_at_call 102; refine HT.out.mono ?_; rintro en w1 ⟨rfl, hs1⟩; have HS1 := Lib.hid (And.intro hs1 (hs1.2.heap HZ.out (by have := HX.out; omega))); clear hs1)
    | (go_at_call 130; rw [← HD.out]; refine (HC.out w1 X S1 HS1.out.1.1).mono ?_; rintro en w2 ⟨c1, rfl, hcel, hnew, hs2⟩; rw [HD.out]; have HS2 := Lib.hid (And.intro hcel (And.intro hnew (And.intro hs2 (hs2.2.heap HS1.out.2 (by have := HX.out; omega))))); clear hcel hnew hs2)
    | (refine wpList_one elNode (by rfl) (.tmp 12) (by rfl) _ c1 rfl HS2.out.1 (by rfl) ?_))
  have hrow := RowG.one (e := 56) (B := w.heap.size + 1) HS2.out.1 HS2.out.2.1 (Array.getElem?_eq_some_iff.1 HS1.out.2).1 (Nat.le_trans (Array.getElem?_eq_some_iff.1 HS1.out.2).1 HS2.out.2.2.1.2.size)
  obtain ⟨F1, hrow, -⟩ := hrow
  have hL0 : LpO w0 w (w2.alloc (.cells c1.toArray 56)) X (some ⟨w2.heap.size, 0, none⟩) 1 [c1] [(cmd S1).1] F1 (cmd S1).2 := by
    have hg1 := HG1.out
    have hg2 := hok _ hg1.good
    have hfew := hg2.good.few
    refine ⟨hrow, HS2.out.2.2.1.1.new (below_new _ _), (Below.heap_alloc _ _ _ (Array.getElem?_eq_some_iff.1 HS2.out.2.2.2).1).trans HS2.out.2.2.2, (((Kept.of_below (HB.out ZN)).on HS1.out.1.2).on HS2.out.2.2.1.2).on (Kept.of_below (below_new _ _)), by simp only [List.length_singleton]; omega⟩
  have HL0 := Lib.hid hL0
  clear hL0 hrow
  go_loopw [6] (fun v wr => ∃ f p c css l F S', v = .slice p l.length c ∧ LpO w0 w wr X p c css l F S' ∧ pipeL cmd f l S' = q ∧ S'.ts.length ≤ f) (fun _ wr => psLen wr X)
  case atStart => exact ⟨_, _, _, _, _, _, _, rfl, HL0.out, HQ.out, Nat.le_refl _⟩
  case round =>
    obtain ⟨f, p, c, css, l, F, S', rfl, hL, hm, hf⟩ := hrel
    have hpos := hL.pr.good.pos
    obtain ⟨f, rfl⟩ : ∃ g, f = g + 1 := ⟨f - 1, by omega⟩
    have HT2 := Lib.hid (ptakes_any hL.pr [124])
    have HS := Lib.hid (And.intro hL (And.intro hm hf))
    clear hL hm hf hpos
    unfold PS.takes at HT2
    cases hi : S'.is [124] with
    | true =>
      rw [hi, if_pos rfl] at HT2
      have HI := Lib.hid hi
      clear hi
      obtain ⟨n, hn⟩ : ∃ n, l.length = n := ⟨_, rfl⟩
      have HN := Lib.hid hn
      rw [hn]
      clear hn
      go_wp2_with (first
        | (go_at_call 102; refine HT2.out.mono ?_; rintro en w3 ⟨rfl, hs⟩; have HS3 := Lib.hid (And.intro hs (HS.out.1.step HX.out.2 hs (to_take HS.out.1.pr.good).len)); clear hs)
        | (go_at_call 76; refine (plines_any HS3.out.1.1).mono ?_; rintro en w4 ⟨rfl, hs⟩; have HS4 := Lib.hid (And.intro hs (HS3.out.2.step HX.out.2 hs (to_lines (to_take HS.out.1.pr.good).good).len)); clear hs)
        | (go_at_call 130; rw [← HD.out]; refine (HC.out w4 X S'.take.lines HS4.out.1.1).mono ?_; rintro en w5 ⟨c5, rfl, hcel, hnew, hs⟩; rw [HD.out]; have HS5 := Lib.hid (And.intro hcel (And.intro hnew (And.intro hs (HS4.out.2.step HX.out.2 hs (hok _ HS4.out.1.1.good).len)))); clear hcel hnew hs)
        | (refine wpList_one elNode (by rfl) (.tmp 21) (by rfl) _ c5 rfl HS5.out.1 (by rfl) ?_)
        | (at_builtin; refine wpList_push elNode (by rfl) (.tmp 18) (.tmp 22) (by rfl) HS5.out.2.2.2.row HS5.out.1 HS5.out.2.1 HS4.out.2.size (fun k hk => (HS4.out.2.row.lt k (.inr hk)).2) (by have := HS5.out.2.2.2.few; omega) (by rw [HN.out]; rfl) (by rfl) HS5.out.2.2.2.size ?_; intro p6 c6 F6 w6 hr6 _ _ hk6; rw [HN.out] at hr6; have HS6 := Lib.hid (And.intro hr6 hk6); clear hr6 hk6))
      go_roundw
      case rel =>
        have hlt := pipe_lt hok HS.out.1.pr.good (by decide) HI.out
        have h6 := HS6.out.1
        rw [← HN.out] at h6
        have hfew := HS.out.1.few
        refine ⟨f, p6, c6, _, _, F6, (cmd S'.take.lines).2, by rw [List.length_append, HN.out]; rfl, HS5.out.2.2.2.push HX.out.2 HX.out.1 h6 HS6.out.2 (by omega), by rw [← pipeL_go HI.out]; exact HS.out.2.1, by have := HS.out.2.2; omega⟩
      case measure =>
        have hlt := pipe_lt hok HS.out.1.pr.good (by decide) HI.out
        have h6 := HS6.out.1
        rw [← HN.out] at h6
        have hfew := HS.out.1.few
        rw [(HS5.out.2.2.2.push HX.out.2 HX.out.1 h6 HS6.out.2 (by omega)).pr.len, HS.out.1.pr.len]
        exact hlt
    | false =>
      rw [hi, if_neg (by decide)] at HT2
      have HI := Lib.hid hi
      clear hi
      have HQ2 := Lib.hid (show q = (l, S') from by rw [← HS.out.2.1, pipeL_end HI.out])
      have HM2 := Lib.hid (show pipeM cmd S = ((if b then trOf [110, 111, 116] [several [112, 105, 112, 101] l] else several [112, 105, 112, 101] l), S') from by rw [HM.out, HQ2.out])
      obtain ⟨n, hn⟩ : ∃ n, l.length = n := ⟨_, rfl⟩
      have HN := Lib.hid hn
      rw [hn]
      clear hn
      cases b with
      | false =>
        rw [if_neg (by decide)] at HM2
        go_wp2_with (first
          | (go_at_call 102; refine HT2.out.mono ?_; rintro en w3 ⟨rfl, hs⟩; have HL3 := Lib.hid (HS.out.1.step HX.out.2 hs (Nat.le_refl _)); have HSV := Lib.hid (several_any HL3.out.row (by have := HL3.out.few; unfold maxLen; omega) [112, 105, 112, 101]); rw [HN.out] at HSV; clear hs)
          | (go_at_call 80; refine HSV.out.mono ?_; rintro en w4 ⟨c4, rfl, hcel, hnew, hb4⟩; have HS4 := Lib.hid (And.intro hcel (And.intro hnew (And.intro hb4 ((hb4.block w.heap.size (by have := HL3.out.size; omega)).trans HL3.out.zero)))); clear hcel hnew hb4)
          | (refine wpList_store_row (by rfl) 56 (.tmp 7) (.tmp 25) (by rfl) w4.heap.size c4.toArray (by rfl) (by rfl) 56 zeroN.toArray (heap_alloc_new w4 _) (by rw [node_info]; simp [HS4.out.1.1]) (by simp [HS4.out.1.1, zeroN, ofC]) (all_oneCell_toArray HS4.out.1.2) ?_; rw [World.setRow_alloc_new])
          | (refine wpList_load_row (by rfl) 56 (.tmp 7) (by rfl) w4.heap.size (by rfl) 56 c4.toArray (0, 0) _ (heap_alloc_new w4 _) Tryz.underlying56 rfl (by rw [node_info]; simp [HS4.out.1.1]) ?_)
          | (refine wpList_store_row (by rfl) 56 (.tmp 4) (.tmp 30) (by rfl) w.heap.size c4.toArray (by rfl) (by rfl) 56 zeroN.toArray ((Below.heap_alloc w4 _ _ (Array.getElem?_eq_some_iff.1 HS4.out.2.2.2).1).trans HS4.out.2.2.2) (by rw [node_info]; simp [HS4.out.1.1]) (by simp [HS4.out.1.1, zeroN, ofC]) (all_oneCell_toArray HS4.out.1.2) ?_))
        (try simp only [Exit.inBlock, Exit.then])
        obtain ⟨hcel, hnew, hb4, hz4⟩ := HS4.out
        have hz := setRow_heap (w4.alloc (.cells c4.toArray 56)) w.heap.size zeroN.toArray c4.toArray 56 (0, 0) ((Below.heap_alloc w4 _ _ (Array.getElem?_eq_some_iff.1 hz4).1).trans hz4)
        refine bodyPost_ret (ret_tree rfl hz hcel rfl) rfl ?_
        rw [HM2.out]
        have hk4 : Kept (fun i => i = w.heap.size) w4 ((w4.alloc (.cells c4.toArray 56)).setRow w.heap.size c4.toArray) := (Kept.of_below (below_new w4 _)).on (kept_row0 _ _ _)
        have hx := HX.out
        refine ⟨c4, rfl, hcel, (hnew.kept hk4 (fun k h1 h2 => by omega)).base (by omega), (HL3.out.pr.new hb4).kept hk4 (by omega) (fun i hi => by omega), ?_⟩
        exact (HL3.out.kept.on (Kept.of_below hb4)).trans hk4 fun i hi => .inr (by omega)
      | true =>
        rw [if_pos rfl] at HM2
        go_wp2_with (first
          | (go_at_call 102; refine HT2.out.mono ?_; rintro en w3 ⟨rfl, hs⟩; have HL3 := Lib.hid (HS.out.1.step HX.out.2 hs (Nat.le_refl _)); have HSV := Lib.hid (several_any HL3.out.row (by have := HL3.out.few; unfold maxLen; omega) [112, 105, 112, 101]); rw [HN.out] at HSV; clear hs)
          | (go_at_call 80; refine HSV.out.mono ?_; rintro en w4 ⟨c4, rfl, hcel, hnew, hb4⟩; have HS4 := Lib.hid (And.intro hcel (And.intro hnew (And.intro hb4 ((hb4.block w.heap.size (by have := HL3.out.size; omega)).trans HL3.out.zero)))); clear hcel hnew hb4)
          | (refine wpList_store_row (by rfl) 56 (.tmp 7) (.tmp 25) (by rfl) w4.heap.size c4.toArray (by rfl) (by rfl) 56 zeroN.toArray (heap_alloc_new w4 _) (by rw [node_info]; simp [HS4.out.1.1]) (by simp [HS4.out.1.1, zeroN, ofC]) (all_oneCell_toArray HS4.out.1.2) ?_; rw [World.setRow_alloc_new])
          | (refine wpList_load_row (by rfl) 56 (.tmp 7) (by rfl) w4.heap.size (by rfl) 56 c4.toArray (0, 0) _ (heap_alloc_new w4 _) Tryz.underlying56 rfl (by rw [node_info]; simp [HS4.out.1.1]) ?_)
          | (refine wpList_one elNode (by rfl) (.tmp 27) (by rfl) _ c4 rfl HS4.out.1 (by rfl) ?_; obtain ⟨w5, hw5⟩ : ∃ w5, w5 = (w4.alloc (.cells c4.toArray 56)).alloc (.cells c4.toArray 56) := ⟨_, rfl⟩; rw [← hw5]; have HW5 := Lib.hid hw5; clear hw5)
          | (go_at_call 106; refine (of_any _ _ _ _ _).mono ?_; rintro en w6 ⟨rfl, hb6⟩; have HS6 := Lib.hid hb6; clear hb6)
          | (refine wpList_store_row (by rfl) 56 (.tmp 4) (.tmp 29) (by rfl) w.heap.size (ofC ⟨#[110, 111, 116]⟩ (.slice (some ⟨w4.heap.size + 1, 0, none⟩) 1 1)).toArray (by rfl) (by rfl) 56 zeroN.toArray (notz_heap HW5.out HS6.out HS4.out.2.2.2) (by rw [node_info]; rfl) rfl (all_oneCell_toArray (ofC_cel _ _ _ _).2) ?_))
        (try simp only [Exit.inBlock, Exit.then])
        obtain ⟨hcel, hnew, hb4, hz4⟩ := HS4.out
        have hz := setRow_heap w6 w.heap.size zeroN.toArray (ofC ⟨#[110, 111, 116]⟩ (.slice (some ⟨w4.heap.size + 1, 0, none⟩) 1 1)).toArray 56 (0, 0) (notz_heap HW5.out HS6.out hz4)
        refine bodyPost_ret (ret_tree rfl hz (ofC_cel _ _ _ _) rfl) rfl ?_
        rw [HM2.out]
        have hx := HX.out
        have hs4 := HL3.out.size
        have hs5 := hb4.size
        obtain ⟨F5, hr5, -⟩ := RowG.one (w0 := w0) (w := w4.alloc (.cells c4.toArray 56)) (e := 56) (B := w.heap.size + 1) (C := w.heap.size + 1) hcel (hnew.kept (D := fun _ => False) (Kept.of_below (below_new w4 _)) (fun _ _ _ h => h)) (Nat.le_refl _) (by simp; omega)
        rw [← HW5.out, show (w4.alloc (.cells c4.toArray 56)).heap.size = w4.heap.size + 1 by simp] at hr5
        have ht := of_tree hr5 (by simp [maxLen]) [110, 111, 116]
        have hb5 : Below w4.heap.size w4 w5 := by rw [HW5.out]; exact (below_new w4 _).trans ((below_new _ _).mono (by simp))
        have hb6 : Below w4.heap.size w4 w6 := hb5.trans (HS6.out.mono hb5.size)
        have hk6 := kept_row0 w6 w.heap.size (ofC ⟨#[110, 111, 116]⟩ (.slice (some ⟨w4.heap.size + 1, 0, none⟩) 1 1)).toArray
        refine ⟨_, rfl, ofC_cel _ _ _ _, ((ht.kept (D := fun _ => False) (Kept.of_below HS6.out) (fun _ _ _ h => h)).kept hk6 (fun k h1 h2 => by omega)).base (by omega), ((HL3.out.pr.new hb4).new hb6).kept hk6 (by omega) (fun i hi => by omega), ?_⟩
        exact ((HL3.out.kept.on (Kept.of_below hb4)).on (Kept.of_below hb6)).trans hk6 fun i hi => .inr (by omega)
end Go.Proofs.YtakceggnadagmaaGreatDoor
