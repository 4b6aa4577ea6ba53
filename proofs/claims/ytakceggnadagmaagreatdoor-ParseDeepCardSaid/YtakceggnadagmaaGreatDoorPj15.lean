/-
  Proved: texts joined: Proved: how a row of nodes lies in memory that grows while its nodes get kids. Conditions: as each says.
  Proved: the contract of the laying of a parser's tree. Conditions: the tree lies in memory, and is not too large.
-/
import Derived.Test.YtakceggnadagmaaGreatDoorPj03
import Derived.Test.YtakceggnadagmaaGreatDoorParseCase
import Derived.Deep.MidRow
namespace Go.Proofs.YtakceggnadagmaaGreatDoor
open Go Go.RowKit GlyphMath LexMath TreeMath ParseMath

/-! ### Owned rows, a cell set -/
theorem ownsRow_set {w : World} {B e sz : Nat} {g c n : Nat} {xs : List Value} (h : w.ownsRow B e sz (.slice (some ⟨g, 0, none⟩) n c) n xs) (j : Nat) (u : Value) : (w.setCell ⟨g, j, none⟩ u).ownsRow B e sz (.slice (some ⟨g, 0, none⟩) n c) n (xs.set j u) := by
  obtain ⟨h1, h2⟩ := h
  refine ⟨by rw [List.length_set]; exact h1, ?_⟩
  rcases h2 with ⟨hv, _⟩ | ⟨g', cap, cur, hv, hB, hh, hn, hm, hs, ht⟩
  · simp at hv
  · simp only [Value.slice.injEq, Option.some.injEq, Addr.mk.injEq, and_true, true_and] at hv
    obtain ⟨rfl, rfl⟩ := hv
    refine .inr ⟨g, c, cur.setIfInBounds j u, rfl, hB, heap_setCell_same w g j cur e u hh, hn, hm, by rw [Array.size_setIfInBounds]; exact hs, ?_⟩
    rw [Array.toList_setIfInBounds, List.take_set, ht]
theorem flat_set {sz : Nat} : ∀ {css : List (List Value)}, (∀ cs ∈ css, Cel sz cs) → ∀ (i : Nat) (cs : List Value) (j : Nat) (u : Value), css[i]? = some cs → j < sz → (css.set i (cs.set j u)).flatten = css.flatten.set (i * sz + j) u := by
  intro css
  induction css with
  | nil => intro _ i cs j u h; simp at h
  | cons a r ih =>
    intro h i cs j u hi hj
    have ha := (h a (by simp)).1
    cases i with
    | zero =>
      simp only [List.getElem?_cons_zero, Option.some.injEq] at hi
      subst hi
      rw [List.set_cons_zero, List.flatten_cons, List.flatten_cons, Nat.zero_mul, Nat.zero_add, List.set_append_left _ _ (by omega)]
    | succ i =>
      have := ih (fun cs hc => h cs (by simp [hc])) i cs j u (by simpa using hi) hj
      rw [List.set_cons_succ, List.flatten_cons, List.flatten_cons, this, show (i + 1) * sz + j = a.length + (i * sz + j) by rw [ha, Nat.succ_mul]; omega, List.set_append_right _ _ (by omega), Nat.add_sub_cancel_left]

/-! ### Nodes that are laid -/
/-- A node's cells, all but its kids. -/
def PN (w : World) (cs : List Value) (n : Nd) : Prop := ∃ kv wv pv av rv, cs = [txt n.op, txt n.name, kv, wv, pv, av, rv] ∧ WsAt w wv n.words ∧ PatsAt w pv n.pats ∧ AsAt w av n.assigns ∧ AsAt w rv n.redirs
abbrev KidR (w1 w : World) (kv : Value) (l : List Int) : Prop := RowG w1 w 3 1 (fun _ cs x => cs = [.int .i64 x]) w1.heap.size kv (l.map fun x => [.int .i64 x]) l (fun _ => False)
/-- Nodes that are laid: w1 is what was there at the outset. -/
structure LaidR (w1 w : World) (v : Value) (css : List (List Value)) (ns : List Nd) : Prop where
  below : Below w1.heap.size w1 w
  row : RowG w1 w 44 7 (fun _ cs n => PN w1 cs n) w1.heap.size v css ns (fun _ => False)
  kids : ∀ (k : Nat) (cs : List Value) (n : Nd) (kv : Value), css[k]? = some cs → ns[k]? = some n → cs[2]? = some kv → KidR w1 w kv n.kids
  apart : ∀ (i j : Nat) (cs ds : List Value) (a b : Value) (g : Nat), css[i]? = some cs → css[j]? = some ds → cs[2]? = some a → ds[2]? = some b → a.ownBlock = some g → b.ownBlock = some g → i = j
  off : ∀ (i : Nat) (cs : List Value) (a : Value) (g : Nat), css[i]? = some cs → cs[2]? = some a → a.ownBlock = some g → v.ownBlock ≠ some g
theorem LaidR.nil (w : World) : LaidR w w (.slice none 0 0) [] [] where
  below := Below.refl _ _
  row := RowG.nil _ _ _ _ _ _
  kids := fun _ _ _ _ h => by simp at h
  apart := fun _ _ _ _ _ _ _ h => by simp at h
  off := fun _ _ _ _ h => by simp at h
section
variable {w1 w : World} {v : Value} {css : List (List Value)} {ns : List Nd}
theorem LaidR.size (h : LaidR w1 w v css ns) : w1.heap.size ≤ w.heap.size := h.below.size
theorem LaidR.kids_lt (h : LaidR w1 w v css ns) {i : Nat} {cs : List Value} {a : Value} {g : Nat} (h1 : css[i]? = some cs) (h2 : cs[2]? = some a) (h3 : a.ownBlock = some g) : w1.heap.size ≤ g ∧ g < w.heap.size := by
  obtain ⟨n, hn⟩ : ∃ n, ns[i]? = some n := ⟨_, List.getElem?_eq_getElem (by rw [← h.row.len]; exact (List.getElem?_eq_some_iff.1 h1).1)⟩
  exact (h.kids i cs n a h1 hn h2).lt g (.inr h3)
theorem LaidR.new {w' : World} (h : LaidR w1 w v css ns) (hb : Below w.heap.size w w') : LaidR w1 w' v css ns where
  below := h.below.trans (hb.mono h.size)
  row := h.row.kept (Kept.of_below (D := fun _ => False) hb) fun _ _ h => h
  kids := fun k cs n kv h1 h2 h3 => (h.kids k cs n kv h1 h2 h3).kept (Kept.of_below (D := fun _ => False) hb) fun _ _ h => h
  apart := h.apart
  off := h.off
/-- One more. -/
theorem LaidR.push (h : LaidR w1 w v css ns) {w' : World} {v' : Value} {cs : List Value} {n : Nd} {F' : Nat → Prop} (hr : RowG w1 w' 44 7 (fun _ cs n => PN w1 cs n) w1.heap.size v' (css ++ [cs]) (ns ++ [n]) F') (hF : ∀ k, F' k → False)
    (hk : Kept (fun k => v.ownBlock = some k) w w') (hat : v'.ownBlock = v.ownBlock ∨ ∀ k, v'.ownBlock = some k → w.heap.size ≤ k) (h2 : cs[2]? = some (.slice none 0 0)) (h0 : n.kids = []) : LaidR w1 w' v' (css ++ [cs]) (ns ++ [n]) := by
  have hnew : ∀ (i : Nat) (ds : List Value) (a : Value) (g : Nat), (css ++ [cs])[i]? = some ds → ds[2]? = some a → a.ownBlock = some g → css[i]? = some ds := fun i ds a g e1 e2 e3 => by
    rcases Nat.lt_or_ge i css.length with hl | hl
    · rwa [List.getElem?_append_left hl] at e1
    · rw [List.getElem?_append_right hl] at e1
      obtain ⟨j1, j2⟩ := List.getElem?_eq_some_iff.1 e1
      simp only [List.length_singleton] at j1
      simp only [List.getElem_singleton] at j2
      subst j2
      rw [h2] at e2
      cases e2
      cases e3
  refine ⟨below_kept h.below hk (fun k e => (h.row.lt k (.inr e)).1) h.size, hr.nofar hF, ?_, ?_, ?_⟩
  · intro k ds m kv e1 e2 e3
    rcases Nat.lt_or_ge k css.length with hl | hl
    · rw [List.getElem?_append_left hl] at e1
      rw [List.getElem?_append_left (by rw [← h.row.len]; exact hl)] at e2
      exact (h.kids k ds m kv e1 e2 e3).kept hk fun i hi => hi.elim (fun h => h.elim) fun hi => h.off k ds kv i e1 e3 hi
    · rw [List.getElem?_append_right hl] at e1
      rw [List.getElem?_append_right (by rw [← h.row.len]; exact hl)] at e2
      obtain ⟨j1, j2⟩ := List.getElem?_eq_some_iff.1 e1
      obtain ⟨i1, i2⟩ := List.getElem?_eq_some_iff.1 e2
      simp only [List.length_singleton] at j1 i1
      simp only [List.getElem_singleton] at j2 i2
      subst j2 i2
      rw [h2] at e3
      cases e3
      rw [h0]
      exact RowG.nil _ _ _ _ _ _
  · intro i j ds es a b g e1 e2 e3 e4 e5 e6
    exact h.apart i j ds es a b g (hnew i ds a g e1 e3 e5) (hnew j es b g e2 e4 e6) e3 e4 e5 e6
  · intro i ds a g e1 e2 e3 e4
    have e1' := hnew i ds a g e1 e2 e3
    rcases hat with e5 | e5
    · exact h.off i ds a g e1' e2 e3 (e5 ▸ e4)
    · have := e5 g e4
      have := (h.kids_lt e1' e2 e3).2
      omega
/-- One kid more. -/
theorem LaidR.kid (h : LaidR w1 w v css ns) {i : Nat} {cs : List Value} {n : Nd} {kv kv' : Value} {x : Int} {w' : World} {F' : Nat → Prop} {g c : Nat} (hv : v = .slice (some ⟨g, 0, none⟩) ns.length c) (h1 : css[i]? = some cs) (h2 : ns[i]? = some n) (h3 : cs[2]? = some kv)
    (hr : RowG w1 w' 3 1 (fun _ cs x => cs = [.int .i64 x]) w1.heap.size kv' ((n.kids.map fun x => [.int .i64 x]) ++ [[.int .i64 x]]) (n.kids ++ [x]) F') (hF : ∀ k, F' k → False)
    (hk : Kept (fun k => kv.ownBlock = some k) w w') (hat : kv'.ownBlock = kv.ownBlock ∨ ∀ k, kv'.ownBlock = some k → w.heap.size ≤ k) :
    LaidR w1 (w'.setCell ⟨g, i * 7 + 2, none⟩ kv') v (css.set i (cs.set 2 kv')) (ns.modify i fun n => { n with kids := n.kids ++ [x] }) := by
  have hgv : v.ownBlock = some g := by rw [hv]; rfl
  have hg := h.row.lt g (.inr hgv)
  have hcel := h.row.each cs (List.mem_of_getElem? h1)
  have hrow' := h.row.kept hk fun k hk' e => hk'.elim (fun h => h.elim) fun e2 => h.off i cs kv k h1 h3 e e2
  have hne : ∀ k, kv'.ownBlock = some k → k ≠ g := fun k e e2 => by
    subst e2
    rcases hat with e3 | e3
    · exact h.off i cs kv k h1 h3 (e3 ▸ e) hgv
    · have := e3 k e; omega
  have hks : Kept (fun k => k = g) w' (w'.setCell ⟨g, i * 7 + 2, none⟩ kv') := (Kept.refl (fun k => k = g) w').setCell (p := ⟨g, i * 7 + 2, none⟩) (.inl rfl) _
  have hil := (List.getElem?_eq_some_iff.1 h1).1
  have hone : kv'.oneCell' = true := by
    obtain ⟨a, c', e⟩ := hr.shape
    rw [e]; rfl
  have hset : ∀ (k : Nat) (ds : List Value), (css.set i (cs.set 2 kv'))[k]? = some ds → (k = i ∧ ds = cs.set 2 kv') ∨ (k ≠ i ∧ css[k]? = some ds) := fun k ds e => by
    by_cases hki : i = k
    · subst hki
      rw [List.getElem?_set_self hil] at e
      exact .inl ⟨rfl, by simpa using e.symm⟩
    · rw [List.getElem?_set_ne hki] at e
      exact .inr ⟨fun e => hki e.symm, e⟩
  have hmod : ∀ (k : Nat) (m : Nd), (ns.modify i fun n => { n with kids := n.kids ++ [x] })[k]? = some m → (k = i ∧ m = { n with kids := n.kids ++ [x] }) ∨ (k ≠ i ∧ ns[k]? = some m) := fun k m e => by
    rw [List.getElem?_modify] at e
    by_cases hki : i = k
    · subst hki
      rw [h2] at e
      simp only [if_true, Option.map_eq_map, Option.map_some, Option.some.injEq] at e
      exact .inl ⟨rfl, e.symm⟩
    · simp only [if_neg hki] at e
      exact .inr ⟨fun e => hki e.symm, by simpa using e⟩
  have h22 : (cs.set 2 kv')[2]? = some kv' := List.getElem?_set_self (by rw [hcel.1]; decide)
  have hapk : ∀ (k : Nat) (ds : List Value) (b : Value) (q : Nat), k ≠ i → css[k]? = some ds → ds[2]? = some b → b.ownBlock = some q → kv'.ownBlock ≠ some q := fun k ds b q hki e1 e2 e3 e4 => by
    rcases hat with e5 | e5
    · exact hki (h.apart k i ds cs b kv q e1 h1 e2 h3 e3 (e5 ▸ e4))
    · have := e5 q e4
      have := (h.kids_lt e1 e2 e3).2
      omega
  refine ⟨below_kept (below_kept h.below hk (fun k e => (h.kids_lt h1 h3 e).1) h.size) hks (fun k e => by rw [e]; exact hg.1) (Nat.le_trans h.size hk.size), ⟨?_, ?_, ?_, ?_, fun _ h => h.elim⟩, ?_, ?_, ?_⟩
  · rw [List.length_modify, flat_set h.row.each i cs 2 kv' h1 (by decide)]
    have := hrow'.own
    rw [hv] at this ⊢
    exact ownsRow_set this _ _
  · rw [List.length_set, List.length_modify]
    exact h.row.len
  · intro ds hds
    rcases List.mem_or_eq_of_mem_set hds with e | e
    · exact h.row.each ds e
    · subst e
      refine ⟨by rw [List.length_set]; exact hcel.1, fun u hu => ?_⟩
      rcases List.mem_or_eq_of_mem_set hu with e | e
      · exact hcel.2 u e
      · rw [e]; exact hone
  · intro k ds m e1 e2
    refine (Stays.of0 fun W _ => ?_)
    rcases hset k ds e1 with ⟨a1, a2⟩ | ⟨a1, a2⟩
    · subst a1 a2
      rcases hmod k m e2 with ⟨_, b2⟩ | ⟨b1, _⟩
      · subst b2
        obtain ⟨kv0, wv, pv, av, rv, e, hh⟩ := (h.row.sub k cs n h1 h2).now h.below
        exact ⟨kv', wv, pv, av, rv, by rw [e]; rfl, hh⟩
      · exact absurd rfl b1
    · rcases hmod k m e2 with ⟨b1, _⟩ | ⟨_, b2⟩
      · exact absurd b1 a1
      · exact (h.row.sub k ds m a2 b2).now h.below
  · intro k ds m kk e1 e2 e3
    rcases hset k ds e1 with ⟨a1, a2⟩ | ⟨a1, a2⟩
    · subst a1 a2
      rw [h22] at e3
      cases e3
      rcases hmod k m e2 with ⟨_, b2⟩ | ⟨b1, _⟩
      · subst b2
        have hr' := (hr.nofar hF).kept hks fun q hq e => hq.elim (fun h => h.elim) fun hq => hne q hq e
        show RowG _ _ _ _ _ _ _ ((n.kids ++ [x]).map _) (n.kids ++ [x]) _
        rw [List.map_append]
        exact hr'
      · exact absurd rfl b1
    · rcases hmod k m e2 with ⟨b1, _⟩ | ⟨_, b2⟩
      · exact absurd b1 a1
      · refine ((h.kids k ds m kk a2 b2 e3).kept hk fun q hq e => hq.elim (fun h => h.elim) fun hq => a1 (h.apart k i ds cs kk kv q a2 h1 e3 h3 hq e)).kept hks fun q hq e => hq.elim (fun h => h.elim) fun hq => ?_
        subst e
        exact h.off k ds kk q a2 e3 hq hgv
  · intro k j ds es a b q e1 e2 e3 e4 e5 e6
    rcases hset k ds e1 with ⟨a1, a2⟩ | ⟨a1, a2⟩
    · subst a1 a2
      rw [h22] at e3
      cases e3
      rcases hset j es e2 with ⟨b1, b2⟩ | ⟨b1, b2⟩
      · exact b1.symm
      · exact absurd e5 (hapk j es b q b1 b2 e4 e6)
    · rcases hset j es e2 with ⟨b1, b2⟩ | ⟨b1, b2⟩
      · subst b1 b2
        rw [h22] at e4
        cases e4
        exact absurd e6 (hapk k ds a q a1 a2 e3 e5)
      · exact h.apart k j ds es a b q a2 b2 e3 e4 e5 e6
  · intro k ds a q e1 e2 e3 e4
    rcases hset k ds e1 with ⟨a1, a2⟩ | ⟨a1, a2⟩
    · subst a1 a2
      rw [h22] at e2
      cases e2
      rw [hgv] at e4
      exact hne q e3 (by simpa using e4.symm)
    · exact h.off k ds a q a2 e2 e3 e4
end
theorem ownsRow_max {w : World} {B e sz : Nat} {v : Value} {n : Nat} {xs : List Value} (h : w.ownsRow B e sz v n xs) : n ≤ maxLen := by
  rcases h.2 with ⟨_, h0⟩ | ⟨_, cap, _, _, _, _, hn, hm, _⟩
  · omega
  · omega
/-- Nodes that are laid can be read. -/
theorem LaidR.ns {w1 w : World} {v : Value} {css : List (List Value)} {ns : List Nd} (h : LaidR w1 w v css ns) : NsAt w v ns := by
  obtain ⟨⟨p, c, hv, h1⟩, h2⟩ := h.row.slat.now h.below
  refine ⟨⟨p, c, hv, fun k n hn => ?_⟩, ownsRow_max h.row.own⟩
  obtain ⟨cs, hcs⟩ : ∃ cs, css[k]? = some cs := ⟨_, List.getElem?_eq_getElem (by rw [h.row.len]; exact (List.getElem?_eq_some_iff.1 hn).1)⟩
  obtain ⟨kv, wv, pv, av, rv, e, a1, a2, a3, a4⟩ := h2 k cs n hcs hn
  have h3 := h.kids k cs n kv hcs hn (by rw [e]; rfl)
  refine ⟨cs, h1 k cs hcs, ⟨⟨kv, wv, pv, av, rv, e, ?_, a1.below h.below, a2.below h.below, a3.below h.below, a4.below h.below⟩⟩⟩
  obtain ⟨⟨p', c', hv', h4⟩, h5⟩ := h3.slat.now h.below
  refine ⟨⟨p', c', hv', fun j x hx => ⟨_, h4 j _ (by rw [List.getElem?_map, hx]; rfl), rfl⟩⟩, ownsRow_max h3.own⟩
end Go.Proofs.YtakceggnadagmaaGreatDoor

namespace Go.Proofs.YtakceggnadagmaaGreatDoor
open Go Go.RowKit GlyphMath LexMath TreeMath ParseMath

theorem NdC.later {w w' : World} {n : Nd} {cs : List Value} (h : NdC w n cs) (hb : Below w.heap.size w w') : NdC w' n cs := by
  obtain ⟨h0, wv, pv, av, rv, e, h1, h2, h3, h4⟩ := h
  exact ⟨h0, wv, pv, av, rv, e, h1.below hb, h2.below hb, h3.below hb, h4.below hb⟩
theorem TrC.later {w w' : World} {cs : List Value} {t : Tr} (h : TrC w cs t) (hb : Below w.heap.size w w') : TrC w' cs t := by
  induction h with
  | mk n kids cs kp kc css h1 h2 h3 h4 _ ih => exact .mk n kids cs kp kc css (h1.later hb) h2 h3 (fun k c hk => (h4 k c hk).below hb) ih
theorem elNd : ElT 22 44 7 152 := elT_of (z := .agg #[.string ⟨#[]⟩, .string ⟨#[]⟩, .slice none 0 0, .slice none 0 0, .slice none 0 0, .slice none 0 0, .slice none 0 0]) Tryz.underlying22 (by kernel_rfl) rfl (by decide) (by decide)
theorem elInt : ElT 36 3 1 8 := elT_of (z := .int .i64 0) Tryz.underlying36 (by kernel_rfl) rfl (by decide) (by decide)
theorem nd7_info : (Tryz.prog.info? 44).map (·.size) = some 7 := by kernel_rfl
theorem wsAt_shape {w : World} {v : Value} {l : List (List Pt)} (h : WsAt w v l) : ∃ p n c, v = .slice p n c := by
  obtain ⟨p, c, rfl, -⟩ := h.is
  exact ⟨_, _, _, rfl⟩
theorem patsAt_shape {w : World} {v : Value} {l : List (List (List Pt))} (h : PatsAt w v l) : ∃ p n c, v = .slice p n c := by
  obtain ⟨p, c, rfl, -⟩ := h.is
  exact ⟨_, _, _, rfl⟩
theorem asAt_shape {w : World} {v : Value} {l : List (List UInt8 × List Pt)} (h : AsAt w v l) : ∃ p n c, v = .slice p n c := by
  obtain ⟨p, c, rfl, -⟩ := h.is
  exact ⟨_, _, _, rfl⟩
theorem trC_cel {w : World} {c : List Value} {t : Tr} (h : TrC w c t) : Cel 8 c := by
  cases h with
  | mk n kids cs kp kc css h1 h2 h3 h4 h5 =>
    obtain ⟨_, wv, pv, av, rv, rfl, hw, hp, ha, hr⟩ := h1
    obtain ⟨_, _, _, rfl⟩ := wsAt_shape hw
    obtain ⟨_, _, _, rfl⟩ := patsAt_shape hp
    obtain ⟨_, _, _, rfl⟩ := asAt_shape ha
    obtain ⟨_, _, _, rfl⟩ := asAt_shape hr
    refine ⟨rfl, fun v hv => ?_⟩
    simp only [txt, List.cons_append, List.nil_append, List.mem_cons, List.not_mem_nil, or_false] at hv
    rcases hv with rfl | rfl | rfl | rfl | rfl | rfl | rfl | rfl <;> rfl
theorem ownsRow_free {w : World} {B e sz g n c : Nat} {xs : List Value} (h : w.ownsRow B e sz (.slice (some ⟨g, 0, none⟩) n c) n xs) (j : Nat) : w.frozen? ⟨g, j, none⟩ = false := by
  rcases h.2 with ⟨hv, _⟩ | ⟨g', cap, cur, hv, _, hh, _⟩
  · simp at hv
  · simp only [Value.slice.injEq, Option.some.injEq, Addr.mk.injEq, and_true, true_and] at hv
    obtain ⟨rfl, rfl⟩ := hv
    exact frozen_plain hh j
/-- What laying a tree answers. -/
def LdEnd (w1 w' : World) (e : Ending) (l : List Nd) : Prop := ∃ v css, e = .returned v ∧ LaidR w1 w' v css l
theorem laidL_go {a : Nat} {t : Tr} {r : List Tr} {l : List Nd} : laidL a (t :: r) l = laidL a r (laidM t (l.modify a fun n => { n with kids := n.kids ++ [(l.length : Int)] })) := by rw [laidL]
theorem sizeT_pos (t : Tr) : 1 ≤ sizeT t := by cases t; rw [sizeT]; omega
theorem sizeL_len : ∀ l : List Tr, l.length ≤ sizeL l
  | [] => Nat.le_refl _
  | t :: r => by
    have := sizeL_len r
    have := sizeT_pos t
    rw [sizeL, List.length_cons]
    omega
theorem sizeL_get : ∀ {l : List Tr} {i : Nat} {t : Tr}, l[i]? = some t → sizeT t ≤ sizeL l
  | [], i, t, h => by simp at h
  | a :: r, 0, t, h => by
    simp only [List.getElem?_cons_zero, Option.some.injEq] at h
    subst h
    rw [sizeL]; omega
  | a :: r, i + 1, t, h => by
    have := sizeL_get (l := r) (i := i) (t := t) (by simpa using h)
    rw [sizeL]; omega

mutual
theorem laidM_get : ∀ (t : Tr) (l : List Nd) (k : Nat), k < l.length → (laidM t l)[k]? = l[k]?
  | .mk n kids, l, k, h => by rw [laidM, laidL_get l.length kids (l ++ [n]) k (by simp; omega) (by omega), List.getElem?_append_left h]
theorem laidL_get : ∀ (a : Nat) (ts : List Tr) (l : List Nd) (k : Nat), k < l.length → k ≠ a → (laidL a ts l)[k]? = l[k]?
  | a, [], l, k, h, hk => by rw [laidL]
  | a, t :: r, l, k, h, hk => by
    have h1 : (l.modify a fun n => { n with kids := n.kids ++ [(l.length : Int)] }).length = l.length := List.length_modify ..
    rw [laidL_go, laidL_get a r _ k (by rw [laidM_length, h1]; omega) hk, laidM_get t _ k (by rw [h1]; exact h)]
    have hne : a ≠ k := fun e => hk e.symm
    simp [hne]
end
/-- Where the laying of kids stands. -/
structure LdO (w1 wr : World) (A : Nat) (kids : List Tr) (Fin : List Nd) (i : Nat) (v : Value) (css : List (List Value)) (ns : List Nd) (n : Nd) : Prop where
  row : LaidR w1 wr v css ns
  fin : Fin = laidL A (kids.drop i) ns
  node : ns[A]? = some n
  count : n.kids.length = i
  few : ns.length + sizeL (kids.drop i) ≤ 50000
  le : i ≤ kids.length
theorem LdO.lt {w1 wr : World} {A i : Nat} {kids : List Tr} {Fin : List Nd} {v : Value} {css : List (List Value)} {ns : List Nd} {n : Nd} (h : LdO w1 wr A kids Fin i v css ns n) : A < ns.length := (List.getElem?_eq_some_iff.1 h.node).1
/-- A kid more. -/
theorem LdO.next {w1 wr w8 : World} {A i : Nat} {kids : List Tr} {Fin : List Nd} {v v8 : Value} {css css8 : List (List Value)} {ns : List Nd} {n : Nd} {t : Tr} (h : LdO w1 wr A kids Fin i v css ns n) (ht : kids[i]? = some t)
    (h8 : LaidR w1 w8 v8 css8 (laidM t (ns.modify A fun n => { n with kids := n.kids ++ [(ns.length : Int)] }))) : LdO w1 w8 A kids Fin (i + 1) v8 css8 (laidM t (ns.modify A fun n => { n with kids := n.kids ++ [(ns.length : Int)] })) { n with kids := n.kids ++ [(ns.length : Int)] } := by
  have hd : kids.drop i = t :: kids.drop (i + 1) := by
    obtain ⟨hi, e⟩ := List.getElem?_eq_some_iff.1 ht
    rw [List.drop_eq_getElem_cons hi, e]
  have hf := h.few
  rw [hd, sizeL] at hf
  refine ⟨h8, by rw [h.fin, hd, laidL_go], ?_, by simp [h.count], ?_, (List.getElem?_eq_some_iff.1 ht).1⟩
  · rw [laidM_get t _ A (by rw [List.length_modify]; exact h.lt)]
    simp [h.node]
  · rw [laidM_length, List.length_modify]
    omega

/-- A box that was made lies still while a kid is laid down. -/
theorem laid_box {w1 wr w3 w4 : World} {css : List (List Value)} {ns : List Nd} {g c i Y : Nat} {cs : List Value} {kv : Value} {o : Obj} (h : LaidR w1 wr (.slice (some ⟨g, 0, none⟩) ns.length c) css ns) (h1 : css[i]? = some cs) (h2 : cs[2]? = some kv)
    (hY : w3.heap[Y]? = some o) (hb : Below wr.heap.size wr w3) (hk : Kept (fun k => kv.ownBlock = some k) w3 w4) (hYw : Y = wr.heap.size := by rfl) : w4.cell? ⟨g, i * 7 + 2, none⟩ = w3.cell? ⟨g, i * 7 + 2, none⟩ ∧ w4.frozen? ⟨g, i * 7 + 2, none⟩ = false ∧ ∀ u, (w4.setCell ⟨g, i * 7 + 2, none⟩ u).heap[Y]? = some o := by
  have hg := h.row.lt g (.inr rfl)
  have hg4 : w4.heap[g]? = w3.heap[g]? := hk.block g (Nat.lt_of_lt_of_le hg.2 hb.size) (fun e => h.off i cs kv g h1 h2 e rfl)
  refine ⟨World.cell?_of_block hg4, (World.frozen?_of_block hg4).trans (ownsRow_free (h.new hb).row.own _), fun u => ?_⟩
  rw [Below.heap_setCell _ _ _ _ (by show Y ≠ g; omega)]
  exact hk.heap hY (fun e => by have := (h.kids_lt h1 h2 e).2; omega)

set_option maxHeartbeats 8000000 in
set_option maxRecDepth 10000 in
theorem plaid_any : ∀ (n : Nat) (t : Tr), sizeT t ≤ n → ∀ (w1 w : World) (c : List Value) (v : Value) (css : List (List Value)) (ns : List Nd), TrC w1 c t → LaidR w1 w v css ns → ns.length + sizeT t ≤ 50000 →
    Calls Tryz.prog 20 #[.agg c.toArray, v] w fun e w' => LdEnd w1 w' e (laidM t ns)
  | 0, t, hn => by have := sizeT_pos t; omega
  | n + 1, t, hn => by
    intro w1 w c v css ns ht hl hm
    cases ht with
    | mk nd kids cs kp kc kss hnd hkl hkm hsp hsub =>
    obtain ⟨hn0, wv, pv, av, rv, e, hw, hp, ha, hr⟩ := hnd
    obtain ⟨wp, wn, wc, rfl⟩ := wsAt_shape hw
    obtain ⟨pp, pn, pc, rfl⟩ := patsAt_shape hp
    obtain ⟨ap, an, ac, rfl⟩ := asAt_shape ha
    obtain ⟨rp, rn, rc, rfl⟩ := asAt_shape hr
    subst e
    obtain ⟨vp, vc, hv⟩ := hl.row.shape
    have hsz : sizeT (.mk nd kids) = 1 + sizeL kids := by rw [sizeT]
    rw [hsz] at hn hm
    have HS := Lib.hid (And.intro hn hm)
    have HKIDS := Lib.hid (And.intro hsp (And.intro hsub (And.intro hkl (plaid_any n))))
    have HPN := Lib.hid (show PN w1 [txt nd.op, txt nd.name, .slice none 0 0, .slice wp wn wc, .slice pp pn pc, .slice ap an ac, .slice rp rn rc] nd from ⟨_, _, _, _, _, rfl, hw, hp, ha, hr⟩)
    have HN0 := Lib.hid hn0
    have HB := Lib.hid (below_new w)
    have HM := Lib.hid (show laidM (.mk nd kids) ns = laidL ns.length kids (ns ++ [nd]) from by rw [laidM])
    obtain ⟨Fin, hFin⟩ : ∃ Fin, laidM (.mk nd kids) ns = Fin := ⟨_, rfl⟩
    rw [hFin] at HM ⊢
    unfold txt at HPN ⊢
    obtain ⟨o1, ho1⟩ : ∃ o : ByteArray, ⟨nd.op.toArray⟩ = o := ⟨_, rfl⟩
    obtain ⟨o2, ho2⟩ : ∃ o : ByteArray, ⟨nd.name.toArray⟩ = o := ⟨_, rfl⟩
    rw [ho1, ho2] at HPN ⊢
    subst hv
    obtain ⟨A, hA⟩ : ∃ A, ns.length = A := ⟨_, rfl⟩
    have HL := Lib.hid hl
    have HA := Lib.hid hA
    rw [hA] at HM ⊢
    obtain ⟨K, hK⟩ : ∃ K, kids.length = K := ⟨_, rfl⟩
    have HK := Lib.hid hK
    rw [hK]
    have HCEL := Lib.hid (show Cel 7 [.string o1, .string o2, .slice none 0 0, .slice wp wn wc, .slice pp pn pc, .slice ap an ac, .slice rp rn rc] from ⟨rfl, fun v hv => by
      simp only [List.mem_cons, List.not_mem_nil, or_false] at hv
      rcases hv with rfl | rfl | rfl | rfl | rfl | rfl | rfl <;> rfl⟩)
    have hK0 : (K : Int) ≤ 2 ^ 63 - 1 := by rw [← hK]; unfold maxLen at hkm; omega
    clear hn hm hsp hsub hkl hkm hw hp ha hr hn0 hFin ho1 ho2 hl hA hK hsz
    obtain ⟨c7, hc7⟩ : ∃ c7, c7 = ([.string o1, .string o2, .slice none 0 0, .slice wp wn wc, .slice pp pn pc, .slice ap an ac, .slice rp rn rc] : List Value) := ⟨_, rfl⟩
    rw [← hc7] at HPN HCEL
    have H2 := Lib.hid (show c7[2]? = some (.slice none 0 0) from by rw [hc7]; rfl)
    have HBC := Lib.hid (show ∀ W : World, W.heap[w.heap.size]? = some (.cells (c7 ++ [Value.slice kp K kc]).toArray 56 (0, 0)) → W.cell? ⟨w.heap.size, 7, none⟩ = some (.slice kp K kc) ∧ W.rangeAt w.heap.size 0 c7 from fun W hW => by
      have h7 := HCEL.out.1
      refine ⟨by rw [cell_plain hW, List.getElem?_toArray, List.getElem?_append_right (by omega), h7]; rfl, fun j u hu => ?_⟩
      rw [Nat.zero_add, cell_plain hW, List.getElem?_toArray, List.getElem?_append_left (List.getElem?_eq_some_iff.1 hu).1]
      exact hu)
    rw [← hc7]
    clear hc7
    obtain ⟨arr, harr⟩ : ∃ arr, (c7 ++ [Value.slice kp K kc]).toArray = arr := ⟨_, rfl⟩
    rw [harr] at HBC ⊢
    clear harr
    have HR := Lib.hid (show (w.alloc (.cells arr 56)).rangeAt w.heap.size 0 c7 from (HBC.out _ (heap_alloc_new w _)).2)
    have HW := Lib.hid (And.intro (heap_alloc_new w (.cells arr 56)) (HB.out (.cells arr 56)))
    go_enter Tryz.func20, Tryz.ntmps20
    go_wp2_with (first
      | (refine wpList_load_mid (by rfl) 44 (.tmp 11) (by rfl) w.heap.size 0 (by rfl) c7 _ HR.out Tryz.underlying44 rfl (by rw [nd7_info, HCEL.out.1]) ?_; have hW5 := HW.out; obtain ⟨w5, hw5⟩ : ∃ w5, w.alloc (.cells arr 56) = w5 := ⟨_, rfl⟩; rw [hw5] at hW5 ⊢; have HW5 := Lib.hid hW5; clear hW5 hw5)
      | (refine wpList_one elNd (by rfl) (.tmp 12) (by rfl) _ c7 rfl HCEL.out (by rfl) ?_)
      | (at_builtin; refine wpList_push elNd (by rfl) (.tmp 10) (.tmp 13) (by rfl) (C := w5.heap.size) (y := nd) (HL.out.new HW5.out.2).row HCEL.out (NewAt.of0 fun _ _ => HPN.out) (HL.out.new HW5.out.2).size (fun k hk => ((HL.out.new HW5.out.2).row.lt k (.inr hk)).2) (by have := HS.out.2; omega) (by rw [HA.out]; rfl) (by rfl) (HL.out.new HW5.out.2).size ?_; intro p6 c6 F6 w6 hr6 hF6 hat6 hk6; have HBX := Lib.hid (HBC.out _ (hk6.heap HW5.out.1 (fun e => by have := (HL.out.row.lt _ (.inr e)).2; omega))); have HL6 := Lib.hid ((HL.out.new HW5.out.2).push hr6 (fun k hk => (hF6 k hk).elim (fun h => h) fun h => by omega) hk6 hat6 H2.out HN0.out); rw [HA.out] at HL6; rw [HA.out]; have b7 := HBX.out.1; clear hr6 hF6 hat6 hk6))
    go_loopw [1, 18] (fun v iv wr => ∃ (i : Nat) (css' : List (List Value)) (ns' : List Nd) (n' : Nd), iv = .int .i64 (i : Int) ∧ LdO w1 wr A kids Fin i v css' ns' n') (fun _ iv _ => K - (intOf iv).toNat)
    case atStart =>
      have hk := HK.out
      refine ⟨0, _, _, nd, rfl, HL6.out, HM.out, ?_, by rw [HN0.out]; rfl, ?_, by omega⟩
      · rw [List.getElem?_append_right (by rw [HA.out]; exact Nat.le_refl _), HA.out, Nat.sub_self]; rfl
      · have := HS.out.2; simp; omega
    case round =>
      obtain ⟨i, css', ns', n', rfl, hO⟩ := hrel
      obtain ⟨vp', vc', hv⟩ := hO.row.row.shape
      subst hv
      have HO := Lib.hid hO
      by_cases hlt : i < K
      · have hlt0 : (i : Int) < (K : Int) := by omega
        obtain ⟨t, ht⟩ : ∃ t, kids[i]? = some t := ⟨_, List.getElem?_eq_getElem (by rw [HK.out]; exact hlt)⟩
        obtain ⟨ci, hci⟩ : ∃ ci, kss[i]? = some ci := ⟨_, List.getElem?_eq_getElem (by rw [HKIDS.out.2.2.1, HK.out]; exact hlt)⟩
        obtain ⟨cA, hcA⟩ : ∃ cA, css'[A]? = some cA := ⟨_, List.getElem?_eq_getElem (by rw [hO.row.row.len]; exact hO.lt)⟩
        have hcelA := hO.row.row.each cA (List.mem_of_getElem? hcA)
        obtain ⟨kv, hkv⟩ : ∃ kv, cA[2]? = some kv := ⟨_, List.getElem?_eq_getElem (by rw [hcelA.1]; decide)⟩
        have hkid := hO.row.kids A cA n' kv hcA hO.node hkv
        obtain ⟨q, kc', hv⟩ := hkid.shape
        subst hv
        obtain ⟨g, cap, hv, hspA⟩ := hO.row.row.spot hcA
        simp only [Value.slice.injEq, true_and] at hv
        obtain ⟨rfl, rfl⟩ := hv
        obtain ⟨b, o, hkp, hsp⟩ := (HKIDS.out.1 i ci hci).below hO.row.below
        have HSP := Lib.hid (show wr.rangeAt b (o + i * 8) ci from fun j u hu => by
          have := hsp j u hu
          rwa [Nat.add_assoc] at this ⊢)
        have hcelI : Cel 8 ci := trC_cel (HKIDS.out.2.1 i ci t hci ht)
        have HCI := Lib.hid hcelI
        have hsz := hO.row.size
        have hgA := hO.row.row.lt g (.inr rfl)
        have HKD := Lib.hid hkid
        have HW3 := Lib.hid (show ∀ W : World, W = wr.alloc (.cells ci.toArray 56) → W.heap[wr.heap.size]? = some (.cells ci.toArray 56 (0, 0)) ∧ Below wr.heap.size wr W ∧ W.cell? ⟨g, A * 7 + 2, none⟩ = some (.slice q n'.kids.length kc') from fun W hW => by
          subst hW
          exact ⟨heap_alloc_new wr _, below_new wr _, cell_alloc (hspA 2 _ hkv) _⟩)
        have HI := Lib.hid (And.intro hlt (And.intro ht (And.intro hcA hkv)))
        have HREC := Lib.hid (fun (W : World) (u : Value) (dss : List (List Value)) (ms : List Nd) (hl : LaidR w1 W u dss ms) (hm : ms.length + sizeT t ≤ 50000) => HKIDS.out.2.2.2 t (by have := HS.out.1; have := sizeL_get ht; omega) w1 W ci u dss ms (HKIDS.out.2.1 i ci t hci ht) hl hm)
        have HT := Lib.hid (show ns'.length + sizeT t ≤ 50000 from by
          have hf := hO.few
          obtain ⟨hi, e⟩ := List.getElem?_eq_some_iff.1 ht
          rw [List.drop_eq_getElem_cons hi, sizeL, e] at hf
          omega)
        have HNK := Lib.hid (show n'.kids.length ≤ 100000 from by rw [hO.count]; have := hO.few; have := sizeL_len kids; have := HS.out.2; have := HK.out; omega)
        obtain ⟨N, hN⟩ : ∃ N, ns'.length = N := ⟨_, rfl⟩
        have HN := Lib.hid hN
        have hAN : A < N := by rw [← hN]; exact hO.lt
        have hAN0 : (A : Int) < (N : Int) := by omega
        have hN9 : (N : Int) ≤ 2 ^ 63 - 1 := by have := HT.out; have := HN.out; omega
        obtain ⟨m, hm⟩ : ∃ m, n'.kids.length = m := ⟨_, rfl⟩
        have HMM := Lib.hid hm
        rw [hm] at HW3
        subst hkp
        rw [hN]
        clear hO hcelA hkid hsp hcelI hcA hkv hci ht hlt hN hm hspA
        go_wp2_with (first
          | (refine wpList_load_mid (by rfl) 56 (.tmp 20) (by rfl) b (o + i * 8) (by rfl) ci _ HSP.out Tryz.underlying56 rfl (by rw [node_info, HCI.out.1]) ?_)
          | (refine wpList_store_row (by rfl) 56 (.tmp 7) (.tmp 21) (by rfl) wr.heap.size ci.toArray (by rfl) (by rfl) 56 zeroN.toArray (heap_alloc_new wr _) (by rw [node_info]; simp [HCI.out.1]) (by simp [HCI.out.1, zeroN, ofC]) (all_oneCell_toArray HCI.out.2) ?_; rw [World.setRow_alloc_new]; obtain ⟨w3, hw3⟩ : ∃ w3, w3 = wr.alloc (.cells ci.toArray 56) := ⟨_, rfl⟩; have HX3 := Lib.hid (HW3.out w3 hw3); rw [← hw3]; have a2 := HX3.out.2.2; clear hw3)
          | (refine wpList_one elInt (by rfl) (.tmp 30) (by rfl) _ [.int .i64 (N : Int)] rfl ⟨rfl, by simp; rfl⟩ (by rfl) ?_)
          | (at_builtin; refine wpList_push elInt (by rfl) (.tmp 28) (.tmp 31) (by rfl) (w := w3) (C := w3.heap.size) (l := n'.kids) (cs := [.int .i64 (N : Int)]) (y := (N : Int)) (HKD.out.kept (Kept.of_below (D := fun _ => False) HX3.out.2.1) fun _ _ h => h) ⟨rfl, by simp; rfl⟩ (NewAt.of0 fun _ _ => rfl) (Nat.le_trans hsz HX3.out.2.1.size) (fun k hk => Nat.lt_of_lt_of_le (HKD.out.lt k (.inr hk)).2 HX3.out.2.1.size) HNK.out (by rw [HMM.out]; rfl) (by rfl) (Nat.le_trans hsz HX3.out.2.1.size) ?_; intro p4 c4 F4 w4 hr4 hF4 hat4 hk4; have HKI := Lib.hid ((HO.out.row.new HX3.out.2.1).kid rfl HI.out.2.2.1 HO.out.node HI.out.2.2.2 hr4 (fun k hk => (hF4 k hk).elim (fun h => h) fun h => by omega) hk4 hat4); have HB7 := Lib.hid (laid_box (i := A) HO.out.row HI.out.2.2.1 HI.out.2.2.2 HX3.out.1 HX3.out.2.1 hk4); rw [HMM.out] at HKI ⊢; rw [HN.out] at HKI; have b2 := HB7.out.1.trans a2; have f2 := HB7.out.2.1; clear hr4 hF4 hat4 hk4 a2)
          | (refine wpList_load_row (by rfl) 56 (.tmp 7) (by rfl) wr.heap.size (by rfl) 56 ci.toArray (0, 0) _ (HB7.out.2.2 _) Tryz.underlying56 rfl (by rw [node_info]; simp [HCI.out.1]) ?_)
          | (go_at_call 20; refine (HREC.out _ _ _ _ HKI.out (by rw [List.length_modify]; exact HT.out)).mono ?_; rintro en w8 ⟨v8, css8, rfl, hl8⟩; have HL8 := Lib.hid hl8; clear hl8))
        go_roundw
        case rel =>
          have hN := HN.out
          subst hN
          exact ⟨i + 1, css8, _, _, by go_num, HO.out.next HI.out.2.1 HL8.out⟩
        case measure =>
          have := HI.out.1
          simp [intOf]
          omega
      · obtain rfl : i = K := by have := hO.le; have := HK.out; omega
        have hf := hO.fin
        rw [List.drop_of_length_le (by rw [HK.out]; exact Nat.le_refl _), laidL] at hf
        have HF := Lib.hid (show LaidR w1 wr (.slice vp' ns'.length vc') css' Fin from by rw [hf]; exact hO.row)
        clear hO hf hlt
        go_wp2_with fail
        go_ret
        exact ⟨_, _, rfl, HF.out⟩
end Go.Proofs.YtakceggnadagmaaGreatDoor
