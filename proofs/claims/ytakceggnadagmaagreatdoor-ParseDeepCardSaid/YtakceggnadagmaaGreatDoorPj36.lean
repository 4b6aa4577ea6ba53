/-
  Proved: texts joined: Proved: the contract of the parser: a text's script, or the first place of an error. Conditions: the lexer's table of signs lies in memory.
  Proved: nodes that lie in memory lie there, too, when the box of a script that was empty has been turned. Conditions: no word of theirs is empty, no row of patterns.
  Proved: the contract of the parser where too many nodes are made. Conditions: the lexer's table of signs lies in memory.
  Proved: the contract of the parser where nothing is wrong. Conditions: the lexer's table of signs lies in memory.
  Proved: what the model of the parser says of a text of low letters. Conditions: as each says.
  Proved: the contract of the parser at any text, and what it says of a text of low letters. Conditions: the lexer's table of signs lies in memory.
  Proved: the statements' own known text. Conditions: the lexer's table of signs lies in memory.
-/
import Derived.Test.YtakceggnadagmaaGreatDoorPj35
import Derived.Test.YtakceggnadagmaaGreatDoorPj01
namespace Go.Proofs.YtakceggnadagmaaGreatDoor
open Go Go.RowKit GlyphMath LexMath TreeMath ParseMath

/-- A text's nodes; or where an error is, and which. -/
def parseB (s : ByteArray) : Except (Nat × Nat) (List Nd) := match tokB s with
  | .ok ts => parseM ts
  | .error x => .error x
def PZ : Array Value := #[.slice none 0 0, .int .i64 0]
/-- No word is empty, no row of patterns. -/
def fullN (n : Nd) : Bool := n.words.all (fun x => !x.isEmpty) && n.pats.all fun x => !x.isEmpty && x.all fun y => !y.isEmpty
def fullNs (l : List Nd) : Bool := l.all fullN
def PaEnd (w w' : World) (e : Ending) (s : ByteArray) : Prop := match parseB s with
  | .ok ns => ∃ v, e = .returned (.tuple #[.agg #[v, .int .i64 0], .int .i64 (s.size : Int), .int .i64 0]) ∧ (∃ p c, v = .slice p ns.length c) ∧ (fullNs ns = true → NsAt w' v ns) ∧ Below w.heap.size w w'
  | .error (n, c) => c ≠ 0 ∧ e = .returned (.tuple #[.agg PZ, .int .i64 (n : Int), .int .i64 (c : Int)]) ∧ Below w.heap.size w w'
theorem two_all {a b : Value} (ha : a.oneCell' = true) (hb : b.oneCell' = true) : (#[a, b] : Array Value).all (fun x => x.oneCell') = true := by simp [ha, hb]
theorem PZ_all : PZ.all (fun x => x.oneCell') = true := two_all rfl rfl
set_option maxHeartbeats 4000000 in
set_option maxRecDepth 10000 in
theorem pparse_bad (s : ByteArray) (w : World) (hS : Signs (w.alloc (.cells PZ 24))) {n c : Nat} (hm : tokB s = .error (n, c)) : Calls Tryz.prog 11 #[.string s] w fun e w' => PaEnd w w' e s := by
  have HT := Lib.hid (show Calls _ _ _ _ (fun e w' => (c = 2 ∨ c = 3) ∧ e = .returned (.tuple #[zeroV, .int .i64 (n : Int), .int .i64 (c : Int)]) ∧ Below (w.alloc (.cells PZ 24)).heap.size (w.alloc (.cells PZ 24)) w') from by
    have := ptok_any s _ hS
    unfold TkEnd at this
    rw [hm] at this
    exact this)
  have HP := Lib.hid (show ∀ e w', PaEnd w w' e s ↔ c ≠ 0 ∧ e = .returned (.tuple #[.agg PZ, .int .i64 (n : Int), .int .i64 (c : Int)]) ∧ Below w.heap.size w w' from fun e w' => by
    unfold PaEnd parseB
    rw [hm])
  have HB := Lib.hid (below_new w)
  clear hm hS
  refine Calls.mono (R := fun e w' => c ≠ 0 ∧ e = .returned (.tuple #[.agg PZ, .int .i64 (n : Int), .int .i64 (c : Int)]) ∧ Below w.heap.size w w') ?_ fun e w' h => (HP.out e w').2 h
  obtain ⟨nn, hn⟩ : ∃ nn : Int, (n : Int) = nn := ⟨_, rfl⟩
  rw [hn] at HT ⊢
  clear hn HP
  go_enter Tryz.func11, Tryz.ntmps11
  go_wp2_with (first
    | (go_at_call 18; refine HT.out.mono ?_; rintro en w2 ⟨hc, rfl, hb⟩; have HZ := Lib.hid ((hb.block w.heap.size (by simp)).trans (heap_alloc_new w _)); have HBB := Lib.hid ((HB.out _).trans (hb.mono (HB.out _).size)); have HC := Lib.hid (show c ≠ 0 by omega); have hc0 : ((c : Int) != 0) = true := (by have : ¬ (c : Int) = 0 := (by omega); simpa using this); clear hc hb)
    | (refine wpList_store_row (by rfl) 24 (.tmp 2) (.tmp 16) (by rfl) w.heap.size PZ (by rfl) (by rfl) 24 PZ HZ.out (by rw [prog_info]; rfl) rfl PZ_all ?_))
  (try simp only [Exit.inBlock, Exit.then])
  refine bodyPost_ret (ret_prog rfl (setRow_heap w2 w.heap.size PZ PZ 24 (0, 0) HZ.out) rfl rfl rfl rfl) rfl ?_
  have hk := kept_row HBB.out (Nat.le_refl w.heap.size) PZ
  exact ⟨HC.out, rfl, ⟨hk.os, hk.tape, hk.output, hk.size, fun k hk' => hk.block k hk' (by omega)⟩⟩
/-- Where Parse stands behind its script. -/
structure PaO (w w5 : World) (X L : Nat) (c : List Value) (S : PS) (t : Tr) : Prop where
  z : w5.heap[w.heap.size]? = some (.cells PZ 24 (0, 0))
  below : Below w.heap.size w w5
  rd : ∃ v, w5.heap[X]? = some (.cells #[v, .int .i64 (S.at_ : Int), .int .i64 (S.err : Int)] 53 (0, 0))
  box : w5.heap[L]? = some (.cells c.toArray 56 (0, 0))
  cel : Cel 8 c
  tree : TrC w5 c t
theorem PaO.make {w w2 w3 w4 : World} {c : List Value} {r : Tr × PS} {o : Obj} (hz : w2.heap[w.heap.size]? = some (.cells PZ 24 (0, 0))) (hb : Below w.heap.size w w2) (hw3 : w3 = w2.alloc o) (hcel : Cel 8 c) (hnew : NewAt w2 w4 w3.heap.size fun W => TrC W c r.1) (hs : PStep w2 w3 w4 w2.heap.size r.2) :
    PaO w (w4.alloc (.cells c.toArray 56)) w2.heap.size w4.heap.size c r.2 r.1 := by
  have hl := (Array.getElem?_eq_some_iff.1 hz).1
  have h3 : Below w2.heap.size w2 w3 := by rw [hw3]; exact below_new _ _
  have h4 := (hs.2.block w.heap.size (Nat.lt_of_lt_of_le hl h3.size) (fun e => by omega)).trans ((h3.block _ hl).trans hz)
  have hb3 : Below w.heap.size w w3 := hb.trans (h3.mono hb.size)
  have hb4 : Below w.heap.size w w4 := below_kept hb3 hs.2 (fun i e => by have := hb.size; omega) hb3.size
  have hn := below_new w4 (.cells c.toArray 56)
  have hs4 : w.heap.size < w4.heap.size := (Array.getElem?_eq_some_iff.1 h4).1
  obtain ⟨G, oo, cc, hp⟩ := hs.1
  refine ⟨(hn.block _ hs4).trans h4, hb4.trans (hn.mono hb4.size), ⟨_, (hn.block _ (Array.getElem?_eq_some_iff.1 hp.head).1).trans hp.head⟩, heap_alloc_new w4 _, hcel, (hnew.now hs.1.below).later hn⟩

set_option maxHeartbeats 4000000 in
set_option maxRecDepth 10000 in
theorem pparse_fail (s : ByteArray) (w : World) (hS : Signs (w.alloc (.cells PZ 24))) {ts : List Tk} (hm : tokB s = .ok ts) (he : (scriptM ⟨ts, 0, 0⟩).2.err ≠ 0) : Calls Tryz.prog 11 #[.string s] w fun e w' => PaEnd w w' e s := by
  have HT := Lib.hid (show Calls _ _ _ _ (fun e w' => ∃ G c, e = .returned (.tuple #[.slice (some ⟨G, 0, none⟩) ts.length c, .int .i64 (s.size : Int), .int .i64 0]) ∧ ts.length ≤ c ∧ ToksAt w' G 0 ts ∧ GoodS ⟨ts, 0, 0⟩ ∧ Below (w.alloc (.cells PZ 24)).heap.size (w.alloc (.cells PZ 24)) w') from by
    have := ptok_any s _ hS
    unfold TkEnd at this
    rw [hm] at this
    exact this)
  have HB := Lib.hid (below_new w)
  have HP := Lib.hid (show ∀ e w', (match parseM ts with
    | .ok ns => ∃ v, e = .returned (.tuple #[.agg #[v, .int .i64 0], .int .i64 (s.size : Int), .int .i64 0]) ∧ (∃ p c, v = .slice p ns.length c) ∧ (fullNs ns = true → NsAt w' v ns) ∧ Below w.heap.size w w'
    | .error (n, c) => c ≠ 0 ∧ e = .returned (.tuple #[.agg PZ, .int .i64 (n : Int), .int .i64 (c : Int)]) ∧ Below w.heap.size w w') → PaEnd w w' e s from fun e w' h => by
    unfold PaEnd parseB
    rw [hm]
    exact h)
  refine Calls.mono ?_ HP.out
  clear hm hS HP
  have HM := Lib.hid (show parseM ts = if (scriptM ⟨ts, 0, 0⟩).2.err ≠ 0 then .error ((scriptM ⟨ts, 0, 0⟩).2.at_, (scriptM ⟨ts, 0, 0⟩).2.err) else if 200 < (laidM (scriptM ⟨ts, 0, 0⟩).1 []).length then .error (0, 3) else .ok (laidM (scriptM ⟨ts, 0, 0⟩).1 []) from rfl)
  obtain ⟨r, hr⟩ : ∃ r, scriptM ⟨ts, 0, 0⟩ = r := ⟨_, rfl⟩
  rw [hr] at HM he
  have HR := Lib.hid hr
  obtain ⟨N, hN⟩ : ∃ N, ts.length = N := ⟨_, rfl⟩
  have HN := Lib.hid hN
  rw [hN] at HT
  clear hr hN
  have he0 : ((r.2.err : Int) != 0) = true := (by have : ¬ (r.2.err : Int) = 0 := (by omega); simpa using this)
  have HM2 := Lib.hid (show parseM ts = .error (r.2.at_, r.2.err) from by rw [HM.out, if_pos he])
  have HE := Lib.hid he
  rw [HM2.out]
  obtain ⟨ee, hee⟩ : ∃ ee : Int, (r.2.err : Int) = ee := ⟨_, rfl⟩
  obtain ⟨aa, haa⟩ : ∃ aa : Int, (r.2.at_ : Int) = aa := ⟨_, rfl⟩
  have HEE := Lib.hid hee
  have HAA := Lib.hid haa
  rw [hee] at he0
  clear HM HM2 he hee haa
  go_enter Tryz.func11, Tryz.ntmps11
  go_wp2_with (first
    | (go_at_call 18; refine HT.out.mono ?_; rintro en w2 ⟨G, c, rfl, hle, htk, hgood, hb⟩; have HZ := Lib.hid ((hb.block w.heap.size (by simp)).trans (heap_alloc_new w _)); have HBB := Lib.hid ((HB.out _).trans (hb.mono (HB.out _).size)); have HTK := Lib.hid (And.intro hle (And.intro htk hgood)); clear hle htk hgood hb)
    | (go_at_call 19; obtain ⟨w3, hw3⟩ : ∃ w3, w3 = w2.alloc (.cells #[.slice (some ⟨G, 0, none⟩) N c, .int .i64 0, .int .i64 0] 53) := ⟨_, rfl⟩; have HPR := Lib.hid (show Pr w2 w3 w2.heap.size ⟨ts, 0, 0⟩ from ⟨G, 0, c, (by rw [hw3]; exact below_new _ _), Nat.le_refl _, (by rw [hw3, ← HN.out]; exact heap_alloc_new w2 _), (by have := HTK.out.1; rw [← HN.out] at this; exact this), HTK.out.2.1, HTK.out.2.2⟩); have HW3 := Lib.hid hw3; rw [← hw3]; clear hw3; refine (pscript_any HPR.out).mono ?_; rintro en w4 ⟨cs, rfl, hcel, hnew, hs⟩; rw [HR.out] at hnew hs; have HPA := Lib.hid (PaO.make HZ.out HBB.out HW3.out hcel hnew hs); have HCS := Lib.hid hcel; clear hcel hnew hs)
    | (refine wpList_store_row (by rfl) 56 (.tmp 7) (.tmp 21) (by rfl) w4.heap.size cs.toArray (by rfl) (by rfl) 56 zeroN.toArray (heap_alloc_new w4 _) (by rw [node_info]; simp [HCS.out.1]) (by simp [HCS.out.1, zeroN, ofC]) (all_oneCell_toArray HCS.out.2) ?_; rw [World.setRow_alloc_new]; obtain ⟨w5, hw5⟩ : ∃ w5, w4.alloc (.cells cs.toArray 56) = w5 := ⟨_, rfl⟩; have hpa := HPA.out; rw [hw5] at hpa ⊢; clear hw5; obtain ⟨rv, hrd⟩ := hpa.rd; rw [HEE.out, HAA.out] at hrd; have x1 := cell_plain hrd 1; have x2 := cell_plain hrd 2; have HP5 := Lib.hid hpa; clear hpa hrd))
  have z0 : w5.cell? ⟨w.heap.size, 0, none⟩ = some (.slice none 0 0) := cell_plain HP5.out.z 0
  have z1 : w5.cell? ⟨w.heap.size, 1, none⟩ = some (.int .i64 0) := cell_plain HP5.out.z 1
  have g0 := frozen_plain HP5.out.z 0
  have g1 := frozen_plain HP5.out.z 1
  have hne : w2.heap.size ≠ w.heap.size := fun e => by
    have := (Array.getElem?_eq_some_iff.1 HZ.out).1
    omega
  have far : ∀ (W : World) (i j : Nat) (u : Value), (W.setCell ⟨w.heap.size, i, none⟩ u).cell? ⟨w2.heap.size, j, none⟩ = W.cell? ⟨w2.heap.size, j, none⟩ := fun W i j u => World.cell?_of_block (Below.heap_setCell W ⟨w.heap.size, i, none⟩ u w2.heap.size hne)
  have y1 : ((w5.setCell ⟨w.heap.size, 0, none⟩ (.slice none 0 0)).setCell ⟨w.heap.size, 1, none⟩ (.int .i64 0)).cell? ⟨w2.heap.size, 1, none⟩ = some (.int .i64 aa) := by rw [far, far]; exact x1
  have y2 : ((w5.setCell ⟨w.heap.size, 0, none⟩ (.slice none 0 0)).setCell ⟨w.heap.size, 1, none⟩ (.int .i64 0)).cell? ⟨w2.heap.size, 2, none⟩ = some (.int .i64 ee) := by rw [far, far]; exact x2
  go_region
  (try simp only [Exit.then])
  go_wp2_with fail
  (try simp only [Exit.inBlock, Exit.then])
  refine bodyPost_ret (ret_prog (cs := PZ) rfl (heap_setCell_same _ _ 1 _ _ (.int .i64 0) (heap_setCell_same _ _ 0 _ _ (.slice none 0 0) HP5.out.z)) rfl rfl rfl rfl) rfl ?_
  exact ⟨HE.out, by rw [HEE.out, HAA.out]; rfl, below_drewW ((HP5.out.below.setCell (p := ⟨w.heap.size, 0, none⟩) (Nat.le_refl _) _).setCell (p := ⟨w.heap.size, 1, none⟩) (Nat.le_refl _) _)⟩
end Go.Proofs.YtakceggnadagmaaGreatDoor

namespace Go.Proofs.YtakceggnadagmaaGreatDoor
open Go Go.RowKit GlyphMath LexMath TreeMath ParseMath

section
variable {w W : World} {z : Nat} {t : TypeId} (hz : w.heap[z]? = some (.cells PZ t (0, 0))) (hk : ∀ k, k ≠ z → W.heap[k]? = w.heap[k]?) (h1 : W.cell? ⟨z, 1, none⟩ = some (.int .i64 0))
include hz hk h1
theorem spot_turn {p : Option Addr} {k size : Nat} {cs : List Value} (h : SpotAt w p k size cs) (hc : 3 ≤ cs.length ∨ (∃ s r, cs = .string s :: r) ∨ ∃ u, cs = [u] ∧ u ≠ .slice none 0 0) : SpotAt W p k size cs := by
  obtain ⟨b, o, hp, hs⟩ := h
  refine ⟨b, o, hp, fun i u hu => ?_⟩
  have hw := hs i u hu
  by_cases hb : b = z
  · subst hb
    rcases hc with hc | ⟨s, r, rfl⟩ | ⟨v, rfl, hv⟩
    · have h2 := hs 2 (cs[2]'(by omega)) (List.getElem?_eq_getElem _)
      rw [cell_plain hz] at h2
      have := (Array.getElem?_eq_some_iff.1 h2).1
      simp only [PZ, List.size_toArray, List.length_cons, List.length_nil] at this
      omega
    · have h2 := hs 0 _ rfl
      rw [cell_plain hz] at h2
      obtain ⟨h3, h4⟩ := Array.getElem?_eq_some_iff.1 h2
      have h5 : o + k * size + 0 = 0 ∨ o + k * size + 0 = 1 := by simp [PZ] at h3; omega
      rcases h5 with h5 | h5
      · rw [h5] at h2; simp [PZ] at h2
      · rw [h5] at h2; simp [PZ] at h2
    · have hi : i = 0 := by have := (List.getElem?_eq_some_iff.1 hu).1; simpa using this
      subst hi
      obtain rfl : v = u := by simpa using hu
      rw [cell_plain hz] at hw
      obtain ⟨h3, -⟩ := Array.getElem?_eq_some_iff.1 hw
      have h5 : o + k * size + 0 = 0 ∨ o + k * size + 0 = 1 := by simp [PZ] at h3; omega
      rcases h5 with h5 | h5
      · rw [h5] at hw; simp [PZ] at hw; exact absurd hw.symm hv
      · rw [h5] at hw ⊢; simp [PZ] at hw; rw [h1, hw]
  · rw [World.cell?_of_block (hk b hb)]
    exact hw
theorem ps_turn {v : Value} {ps : List Pt} (h : PsAt w v ps) : PsAt W v ps := by
  induction h with
  | mk p c ps us e1 e2 e3 _ ih => exact .mk p c ps us e1 e2 (fun k q u hq hu => spot_turn hz hk h1 (e3 k q u hq hu) (.inl (by simp [pcells]))) ih
omit hz hk h1 in
theorem ps_ne {v : Value} {ps : List Pt} (h : PsAt w v ps) (hp : ps ≠ []) : v ≠ .slice none 0 0 := by
  obtain ⟨p, c, rfl, -⟩ := h.is
  intro e
  simp only [Value.slice.injEq] at e
  exact hp (List.eq_nil_of_length_eq_zero e.2.1)
omit hz hk h1 in
theorem sl_ne {size : Nat} {α : Type} {P : α → List Value → Prop} {v : Value} {l : List α} (h : SlAt w size α P v l) (hp : l ≠ []) : v ≠ .slice none 0 0 := by
  obtain ⟨⟨p, c, rfl, -⟩, -⟩ := h
  intro e
  simp only [Value.slice.injEq] at e
  exact hp (List.eq_nil_of_length_eq_zero e.2.1)
theorem ws_turn {v : Value} {l : List (List Pt)} (h : WsAt w v l) (hn : ∀ x ∈ l, x ≠ []) : WsAt W v l := by
  obtain ⟨⟨p, c, hv, hx⟩, hf⟩ := h
  refine ⟨⟨p, c, hv, fun k x hk' => ?_⟩, hf⟩
  obtain ⟨cs, a, u, rfl, b⟩ := hx k x hk'
  exact ⟨[u], spot_turn hz hk h1 a (.inr (.inr ⟨u, rfl, ps_ne b (hn x (List.mem_of_getElem? hk'))⟩)), u, rfl, ps_turn hz hk h1 b⟩
theorem pats_turn {v : Value} {l : List (List (List Pt))} (h : PatsAt w v l) (hn : ∀ x ∈ l, x ≠ [] ∧ ∀ y ∈ x, y ≠ []) : PatsAt W v l := by
  obtain ⟨⟨p, c, hv, hx⟩, hf⟩ := h
  refine ⟨⟨p, c, hv, fun k x hk' => ?_⟩, hf⟩
  obtain ⟨cs, a, u, rfl, b⟩ := hx k x hk'
  obtain ⟨n1, n2⟩ := hn x (List.mem_of_getElem? hk')
  exact ⟨[u], spot_turn hz hk h1 a (.inr (.inr ⟨u, rfl, sl_ne b n1⟩)), u, rfl, ws_turn hz hk h1 b n2⟩
theorem as_turn {v : Value} {l : List (List UInt8 × List Pt)} (h : AsAt w v l) : AsAt W v l := by
  obtain ⟨⟨p, c, hv, hx⟩, hf⟩ := h
  refine ⟨⟨p, c, hv, fun k x hk' => ?_⟩, hf⟩
  obtain ⟨cs, a, u, rfl, b⟩ := hx k x hk'
  exact ⟨_, spot_turn hz hk h1 a (.inr (.inl ⟨_, _, rfl⟩)), u, rfl, ps_turn hz hk h1 b⟩
theorem kids_turn {v : Value} {l : List Int} (h : KidsAt w v l) : KidsAt W v l := by
  obtain ⟨⟨p, c, hv, hx⟩, hf⟩ := h
  refine ⟨⟨p, c, hv, fun k x hk' => ?_⟩, hf⟩
  obtain ⟨cs, a, rfl⟩ := hx k x hk'
  exact ⟨_, spot_turn hz hk h1 a (.inr (.inr ⟨_, rfl, by simp⟩)), rfl⟩
omit hz hk h1 in
theorem full_is {n : Nd} (h : fullN n = true) : (∀ x ∈ n.words, x ≠ []) ∧ ∀ x ∈ n.pats, x ≠ [] ∧ ∀ y ∈ x, y ≠ [] := by
  unfold fullN at h
  simp only [Bool.and_eq_true, List.all_eq_true, Bool.not_eq_true', List.isEmpty_eq_false_iff] at h
  exact ⟨h.1, fun x hx => ⟨(h.2 x hx).1, (h.2 x hx).2⟩⟩
theorem ns_turn {v : Value} {l : List Nd} (h : NsAt w v l) (hn : fullNs l = true) : NsAt W v l := by
  obtain ⟨⟨p, c, hv, hx⟩, hf⟩ := h
  refine ⟨⟨p, c, hv, fun k x hk' => ?_⟩, hf⟩
  obtain ⟨cs, a, ⟨kv, wv, pv, av, rv, rfl, b1, b2, b3, b4, b5⟩⟩ := hx k x hk'
  obtain ⟨f1, f2⟩ := full_is (List.all_eq_true.1 hn x (List.mem_of_getElem? hk'))
  exact ⟨_, spot_turn hz hk h1 a (.inl (by simp)), ⟨kv, wv, pv, av, rv, rfl, kids_turn hz hk h1 b1, ws_turn hz hk h1 b2 f1, pats_turn hz hk h1 b3 f2, as_turn hz hk h1 b4, as_turn hz hk h1 b5⟩⟩
end
end Go.Proofs.YtakceggnadagmaaGreatDoor

namespace Go.Proofs.YtakceggnadagmaaGreatDoor
open Go Go.RowKit GlyphMath LexMath TreeMath ParseMath

theorem good_size {ts : List Tk} {r : Tr × PS} (h : GoodS ⟨ts, 0, 0⟩) (hr : scriptM ⟨ts, 0, 0⟩ = r) : ([] : List Nd).length + sizeT r.1 ≤ 50000 := by
  have h1 := script_size h
  rw [hr] at h1
  have h2 := h.few
  dsimp only at h1 h2
  rw [List.length_nil]
  omega
theorem laid_z {w w5 w6 : World} {X L : Nat} {c : List Value} {S : PS} {t : Tr} {v : Value} {css : List (List Value)} {ns : List Nd} (h : PaO w w5 X L c S t) (hl : LaidR w5 w6 v css ns) : w6.heap[w.heap.size]? = some (.cells PZ 24 (0, 0)) :=
  (hl.below.block _ (Array.getElem?_eq_some_iff.1 h.z).1).trans h.z
theorem fin_below {w w5 w6 : World} {X L : Nat} {c : List Value} {S : PS} {t : Tr} {v : Value} {css : List (List Value)} {ns : List Nd} (h : PaO w w5 X L c S t) (hl : LaidR w5 w6 v css ns) (a b d : Value) : Below w.heap.size w (((w6.setCell ⟨w.heap.size, 0, none⟩ a).setCell ⟨w.heap.size, 0, none⟩ b).setCell ⟨w.heap.size, 1, none⟩ d) :=
  (((h.below.trans (hl.below.mono h.below.size)).setCell (p := ⟨w.heap.size, 0, none⟩) (Nat.le_refl _) a).setCell (p := ⟨w.heap.size, 0, none⟩) (Nat.le_refl _) b).setCell (p := ⟨w.heap.size, 1, none⟩) (Nat.le_refl _) d
theorem fin_ns {w5 w6 : World} {z : Nat} {v : Value} {css : List (List Value)} {ns : List Nd} {t : TypeId} (hz : w6.heap[z]? = some (.cells PZ t (0, 0))) (hl : LaidR w5 w6 v css ns) (hf : fullNs ns = true) (a b : Value) : NsAt (((w6.setCell ⟨z, 0, none⟩ a).setCell ⟨z, 0, none⟩ b).setCell ⟨z, 1, none⟩ (.int .i64 0)) v ns :=
  ns_turn hz (fun k hk => by rw [Below.heap_setCell _ _ _ _ (by exact hk), Below.heap_setCell _ _ _ _ (by exact hk), Below.heap_setCell _ _ _ _ (by exact hk)])
    (cell_plain (heap_setCell_same _ _ 1 _ _ (.int .i64 0) (heap_setCell_same _ _ 0 _ _ b (heap_setCell_same _ _ 0 _ _ a hz))) 1) hl.ns hf
set_option maxHeartbeats 4000000 in
set_option maxRecDepth 10000 in
theorem pparse_much (s : ByteArray) (w : World) (hS : Signs (w.alloc (.cells PZ 24))) {ts : List Tk} (hm : tokB s = .ok ts) (he : (scriptM ⟨ts, 0, 0⟩).2.err = 0) (h200 : 200 < (laidM (scriptM ⟨ts, 0, 0⟩).1 []).length) : Calls Tryz.prog 11 #[.string s] w fun e w' => PaEnd w w' e s := by
  have HT := Lib.hid (show Calls _ _ _ _ (fun e w' => ∃ G c, e = .returned (.tuple #[.slice (some ⟨G, 0, none⟩) ts.length c, .int .i64 (s.size : Int), .int .i64 0]) ∧ ts.length ≤ c ∧ ToksAt w' G 0 ts ∧ GoodS ⟨ts, 0, 0⟩ ∧ Below (w.alloc (.cells PZ 24)).heap.size (w.alloc (.cells PZ 24)) w') from by
    have := ptok_any s _ hS
    unfold TkEnd at this
    rw [hm] at this
    exact this)
  have HB := Lib.hid (below_new w)
  have HP := Lib.hid (show ∀ e w', (match parseM ts with
    | .ok ns => ∃ v, e = .returned (.tuple #[.agg #[v, .int .i64 0], .int .i64 (s.size : Int), .int .i64 0]) ∧ (∃ p c, v = .slice p ns.length c) ∧ (fullNs ns = true → NsAt w' v ns) ∧ Below w.heap.size w w'
    | .error (n, c) => c ≠ 0 ∧ e = .returned (.tuple #[.agg PZ, .int .i64 (n : Int), .int .i64 (c : Int)]) ∧ Below w.heap.size w w') → PaEnd w w' e s from fun e w' h => by
    unfold PaEnd parseB
    rw [hm]
    exact h)
  refine Calls.mono ?_ HP.out
  clear hm hS HP
  have HM := Lib.hid (show parseM ts = if (scriptM ⟨ts, 0, 0⟩).2.err ≠ 0 then .error ((scriptM ⟨ts, 0, 0⟩).2.at_, (scriptM ⟨ts, 0, 0⟩).2.err) else if 200 < (laidM (scriptM ⟨ts, 0, 0⟩).1 []).length then .error (0, 3) else .ok (laidM (scriptM ⟨ts, 0, 0⟩).1 []) from rfl)
  obtain ⟨r, hr⟩ : ∃ r, scriptM ⟨ts, 0, 0⟩ = r := ⟨_, rfl⟩
  rw [hr] at HM he h200
  obtain ⟨ns, hns⟩ : ∃ ns, laidM r.1 [] = ns := ⟨_, rfl⟩
  rw [hns] at HM h200
  have HM2 := Lib.hid (show parseM ts = .error (0, 3) from by rw [HM.out, if_neg (by rw [he]; decide), if_pos h200])
  rw [HM2.out]
  have HNS := Lib.hid hns
  obtain ⟨K, hK⟩ : ∃ K, ns.length = K := ⟨_, rfl⟩
  rw [hK] at h200
  have HK := Lib.hid hK
  clear hns hK HM HM2
  have h2 : (200 : Int) < (K : Int) := by omega
  clear h200
  have HR := Lib.hid hr
  obtain ⟨N, hN⟩ : ∃ N, ts.length = N := ⟨_, rfl⟩
  have HN := Lib.hid hN
  rw [hN] at HT
  clear hr hN
  have he0 : (((0 : Nat) : Int) != 0) = false := rfl
  have HE := Lib.hid he
  clear he
  go_enter Tryz.func11, Tryz.ntmps11
  go_wp2_with (first
    | (go_at_call 18; refine HT.out.mono ?_; rintro en w2 ⟨G, c, rfl, hle, htk, hgood, hb⟩; have HZ := Lib.hid ((hb.block w.heap.size (by simp)).trans (heap_alloc_new w _)); have HBB := Lib.hid ((HB.out _).trans (hb.mono (HB.out _).size)); have HTK := Lib.hid (And.intro hle (And.intro htk hgood)); clear hle htk hgood hb)
    | (go_at_call 19; obtain ⟨w3, hw3⟩ : ∃ w3, w3 = w2.alloc (.cells #[.slice (some ⟨G, 0, none⟩) N c, .int .i64 0, .int .i64 0] 53) := ⟨_, rfl⟩; have HPR := Lib.hid (show Pr w2 w3 w2.heap.size ⟨ts, 0, 0⟩ from ⟨G, 0, c, (by rw [hw3]; exact below_new _ _), Nat.le_refl _, (by rw [hw3, ← HN.out]; exact heap_alloc_new w2 _), (by have := HTK.out.1; rw [← HN.out] at this; exact this), HTK.out.2.1, HTK.out.2.2⟩); have HW3 := Lib.hid hw3; rw [← hw3]; clear hw3; refine (pscript_any HPR.out).mono ?_; rintro en w4 ⟨cs, rfl, hcel, hnew, hs⟩; rw [HR.out] at hnew hs; have HPA := Lib.hid (PaO.make HZ.out HBB.out HW3.out hcel hnew hs); have HCS := Lib.hid hcel; clear hcel hnew hs)
    | (refine wpList_store_row (by rfl) 56 (.tmp 7) (.tmp 21) (by rfl) w4.heap.size cs.toArray (by rfl) (by rfl) 56 zeroN.toArray (heap_alloc_new w4 _) (by rw [node_info]; simp [HCS.out.1]) (by simp [HCS.out.1, zeroN, ofC]) (all_oneCell_toArray HCS.out.2) ?_; rw [World.setRow_alloc_new]; obtain ⟨w5, hw5⟩ : ∃ w5, w4.alloc (.cells cs.toArray 56) = w5 := ⟨_, rfl⟩; have hpa := HPA.out; rw [hw5] at hpa ⊢; clear hw5; obtain ⟨rv, hrd⟩ := hpa.rd; rw [HE.out] at hrd; have x2 : w5.cell? ⟨w2.heap.size, 2, none⟩ = some (.int .i64 0) := cell_plain hrd 2; have HP5 := Lib.hid hpa; clear hpa hrd)
    | (refine wpList_load_row (by rfl) 56 (.tmp 7) (by rfl) w4.heap.size (by rfl) 56 cs.toArray (0, 0) _ HP5.out.box Tryz.underlying56 rfl (by rw [node_info]; simp [HCS.out.1]) ?_)
    | (go_at_call 20; have HSZ := Lib.hid (good_size HTK.out.2.2 HR.out); refine (plaid_any _ r.1 (Nat.le_refl _) w5 w5 cs (.slice none 0 0) [] [] HP5.out.tree (LaidR.nil w5) HSZ.out).mono ?_; rintro en w6 ⟨v6, css6, rfl, hl6⟩; rw [HNS.out] at hl6; obtain ⟨p6, c6, hv6⟩ := hl6.row.shape; subst hv6; rw [HK.out] at hl6 ⊢; have HL6 := Lib.hid hl6; have HZ6 := Lib.hid (laid_z HP5.out hl6); have z0 : w6.cell? ⟨w.heap.size, 0, none⟩ = some (.slice none 0 0) := cell_plain HZ6.out 0; have g0 := frozen_plain HZ6.out 0; have z1 : w6.cell? ⟨w.heap.size, 1, none⟩ = some (.int .i64 0) := cell_plain HZ6.out 1; have g1 := frozen_plain HZ6.out 1; clear hl6))
  (try simp only [Exit.inBlock, Exit.then])
  refine bodyPost_ret (ret_prog (cs := PZ) rfl (heap_setCell_same _ _ 1 _ _ (.int .i64 0) (heap_setCell_same _ _ 0 _ _ (.slice none 0 0) (heap_setCell_same _ _ 0 _ _ (.slice p6 K c6) HZ6.out))) rfl rfl rfl rfl) rfl ?_
  exact ⟨by decide, rfl, fin_below HP5.out HL6.out _ _ _⟩
end Go.Proofs.YtakceggnadagmaaGreatDoor

namespace Go.Proofs.YtakceggnadagmaaGreatDoor
open Go Go.RowKit GlyphMath LexMath TreeMath ParseMath

set_option maxHeartbeats 4000000 in
set_option maxRecDepth 10000 in
theorem pparse_good (s : ByteArray) (w : World) (hS : Signs (w.alloc (.cells PZ 24))) {ts : List Tk} (hm : tokB s = .ok ts) (he : (scriptM ⟨ts, 0, 0⟩).2.err = 0) (h200 : ¬ 200 < (laidM (scriptM ⟨ts, 0, 0⟩).1 []).length) : Calls Tryz.prog 11 #[.string s] w fun e w' => PaEnd w w' e s := by
  have HT := Lib.hid (show Calls _ _ _ _ (fun e w' => ∃ G c, e = .returned (.tuple #[.slice (some ⟨G, 0, none⟩) ts.length c, .int .i64 (s.size : Int), .int .i64 0]) ∧ ts.length ≤ c ∧ ToksAt w' G 0 ts ∧ GoodS ⟨ts, 0, 0⟩ ∧ Below (w.alloc (.cells PZ 24)).heap.size (w.alloc (.cells PZ 24)) w') from by
    have := ptok_any s _ hS
    unfold TkEnd at this
    rw [hm] at this
    exact this)
  have HB := Lib.hid (below_new w)
  have HP := Lib.hid (show ∀ e w', (match parseM ts with
    | .ok ns => ∃ v, e = .returned (.tuple #[.agg #[v, .int .i64 0], .int .i64 (s.size : Int), .int .i64 0]) ∧ (∃ p c, v = .slice p ns.length c) ∧ (fullNs ns = true → NsAt w' v ns) ∧ Below w.heap.size w w'
    | .error (n, c) => c ≠ 0 ∧ e = .returned (.tuple #[.agg PZ, .int .i64 (n : Int), .int .i64 (c : Int)]) ∧ Below w.heap.size w w') → PaEnd w w' e s from fun e w' h => by
    unfold PaEnd parseB
    rw [hm]
    exact h)
  refine Calls.mono ?_ HP.out
  clear hm hS HP
  have HM := Lib.hid (show parseM ts = if (scriptM ⟨ts, 0, 0⟩).2.err ≠ 0 then .error ((scriptM ⟨ts, 0, 0⟩).2.at_, (scriptM ⟨ts, 0, 0⟩).2.err) else if 200 < (laidM (scriptM ⟨ts, 0, 0⟩).1 []).length then .error (0, 3) else .ok (laidM (scriptM ⟨ts, 0, 0⟩).1 []) from rfl)
  obtain ⟨r, hr⟩ : ∃ r, scriptM ⟨ts, 0, 0⟩ = r := ⟨_, rfl⟩
  rw [hr] at HM he h200
  obtain ⟨ns, hns⟩ : ∃ ns, laidM r.1 [] = ns := ⟨_, rfl⟩
  rw [hns] at HM h200
  have HM2 := Lib.hid (show parseM ts = .ok ns from by rw [HM.out, if_neg (by rw [he]; decide), if_neg h200])
  rw [HM2.out]
  have HNS := Lib.hid hns
  obtain ⟨K, hK⟩ : ∃ K, ns.length = K := ⟨_, rfl⟩
  rw [hK] at h200
  have HK := Lib.hid hK
  clear hns hK HM HM2
  have h2 : ¬ (200 : Int) < (K : Int) := by omega
  clear h200
  have HR := Lib.hid hr
  obtain ⟨N, hN⟩ : ∃ N, ts.length = N := ⟨_, rfl⟩
  have HN := Lib.hid hN
  rw [hN] at HT
  clear hr hN
  have he0 : (((0 : Nat) : Int) != 0) = false := rfl
  have HE := Lib.hid he
  clear he
  go_enter Tryz.func11, Tryz.ntmps11
  go_wp2_with (first
    | (go_at_call 18; refine HT.out.mono ?_; rintro en w2 ⟨G, c, rfl, hle, htk, hgood, hb⟩; have HZ := Lib.hid ((hb.block w.heap.size (by simp)).trans (heap_alloc_new w _)); have HBB := Lib.hid ((HB.out _).trans (hb.mono (HB.out _).size)); have HTK := Lib.hid (And.intro hle (And.intro htk hgood)); clear hle htk hgood hb)
    | (go_at_call 19; obtain ⟨w3, hw3⟩ : ∃ w3, w3 = w2.alloc (.cells #[.slice (some ⟨G, 0, none⟩) N c, .int .i64 0, .int .i64 0] 53) := ⟨_, rfl⟩; have HPR := Lib.hid (show Pr w2 w3 w2.heap.size ⟨ts, 0, 0⟩ from ⟨G, 0, c, (by rw [hw3]; exact below_new _ _), Nat.le_refl _, (by rw [hw3, ← HN.out]; exact heap_alloc_new w2 _), (by have := HTK.out.1; rw [← HN.out] at this; exact this), HTK.out.2.1, HTK.out.2.2⟩); have HW3 := Lib.hid hw3; rw [← hw3]; clear hw3; refine (pscript_any HPR.out).mono ?_; rintro en w4 ⟨cs, rfl, hcel, hnew, hs⟩; rw [HR.out] at hnew hs; have HPA := Lib.hid (PaO.make HZ.out HBB.out HW3.out hcel hnew hs); have HCS := Lib.hid hcel; clear hcel hnew hs)
    | (refine wpList_store_row (by rfl) 56 (.tmp 7) (.tmp 21) (by rfl) w4.heap.size cs.toArray (by rfl) (by rfl) 56 zeroN.toArray (heap_alloc_new w4 _) (by rw [node_info]; simp [HCS.out.1]) (by simp [HCS.out.1, zeroN, ofC]) (all_oneCell_toArray HCS.out.2) ?_; rw [World.setRow_alloc_new]; obtain ⟨w5, hw5⟩ : ∃ w5, w4.alloc (.cells cs.toArray 56) = w5 := ⟨_, rfl⟩; have hpa := HPA.out; rw [hw5] at hpa ⊢; clear hw5; obtain ⟨rv, hrd⟩ := hpa.rd; rw [HE.out] at hrd; have x2 : w5.cell? ⟨w2.heap.size, 2, none⟩ = some (.int .i64 0) := cell_plain hrd 2; have HP5 := Lib.hid hpa; clear hpa hrd)
    | (refine wpList_load_row (by rfl) 56 (.tmp 7) (by rfl) w4.heap.size (by rfl) 56 cs.toArray (0, 0) _ HP5.out.box Tryz.underlying56 rfl (by rw [node_info]; simp [HCS.out.1]) ?_)
    | (go_at_call 20; have HSZ := Lib.hid (good_size HTK.out.2.2 HR.out); refine (plaid_any _ r.1 (Nat.le_refl _) w5 w5 cs (.slice none 0 0) [] [] HP5.out.tree (LaidR.nil w5) HSZ.out).mono ?_; rintro en w6 ⟨v6, css6, rfl, hl6⟩; rw [HNS.out] at hl6; obtain ⟨p6, c6, hv6⟩ := hl6.row.shape; subst hv6; rw [HK.out] at hl6 ⊢; have HL6 := Lib.hid hl6; have HZ6 := Lib.hid (laid_z HP5.out hl6); have z0 : w6.cell? ⟨w.heap.size, 0, none⟩ = some (.slice none 0 0) := cell_plain HZ6.out 0; have g0 := frozen_plain HZ6.out 0; have z1 : w6.cell? ⟨w.heap.size, 1, none⟩ = some (.int .i64 0) := cell_plain HZ6.out 1; have g1 := frozen_plain HZ6.out 1; clear hl6))
  (try simp only [Exit.inBlock, Exit.then])
  refine bodyPost_ret (ret_prog (cs := #[.slice p6 K c6, .int .i64 0]) rfl (heap_setCell_same _ _ 1 _ _ (.int .i64 0) (heap_setCell_same _ _ 0 _ _ (.slice p6 K c6) (heap_setCell_same _ _ 0 _ _ (.slice p6 K c6) HZ6.out))) rfl rfl rfl rfl) rfl ?_
  exact ⟨_, rfl, ⟨p6, c6, by rw [HK.out]⟩, fun hf => fin_ns HZ6.out HL6.out hf _ _, fin_below HP5.out HL6.out _ _ _⟩
end Go.Proofs.YtakceggnadagmaaGreatDoor

namespace Go.Proofs.YtakceggnadagmaaGreatDoor.ParseMath
open Go Go.Lib GlyphMath LexMath TreeMath

/-- What letters are parsed as, of a text that has so many bytes. -/
def parseN (sz : Nat) (xs : List Nat) : Except (Nat × Nat) (List Nd) := match tokensL sz (xs.length + 1) xs [] with
  | .ok ts => parseM ts
  | .error x => .error x

/-! ### Texts that are deep -/
def deepPre (way : Nat) : List Nat := if way = 0 then [123, 32] else if way = 1 then [40, 32] else [105, 102, 32, 97, 59, 32, 116, 104, 101, 110, 32]
def deepPost (way : Nat) : List Nat := if way = 0 then [59, 32, 125] else if way = 1 then [32, 41] else [59, 32, 102, 105]
def deepX (way : Nat) : Nat → List Nat
  | 0 => [97]
  | n + 1 => deepPre way ++ (deepX way n ++ deepPost way)
def deepTell (n : Nat) : Except (Nat × Nat) (List Nd) → Bool
  | .ok _ => decide (n < 20)
  | .error (_, c) => decide (20 ≤ n) && decide (c = 3)
def deepChk (way n : Nat) : Bool := deepTell n (parseN (deepX way n).length (deepX way n))
set_option maxRecDepth 100000 in
theorem deep_0 : ∀ n, n < 31 → deepChk 0 n = true := by decide +kernel
set_option maxRecDepth 100000 in
theorem deep_1 : ∀ n, n < 31 → deepChk 1 n = true := by decide +kernel
set_option maxRecDepth 100000 in
theorem deep_2 : ∀ n, n < 31 → deepChk 2 n = true := by decide +kernel

/-! ### Texts outside the grammar -/
def oddN : List (List Nat) := [[], [97, 32, 38, 38], [124, 32, 97], [97, 59, 59, 32, 98], [105, 102, 32, 97, 32, 116, 104, 101, 110, 32, 98, 59, 32, 102, 105], [105, 102, 32, 97, 59, 32, 116, 104, 101, 110, 32, 102, 105], [123, 32, 97, 32, 125], [40, 32, 97], [119, 104, 105, 108, 101, 32, 97, 59, 32, 100, 111, 32, 98], [102, 111, 114, 32, 49, 32, 105, 110, 32, 97, 59, 32, 100, 111, 32, 98, 59, 32, 100, 111, 110, 101], [102, 111, 114, 32, 105, 32, 97, 59, 32, 100, 111, 32, 98, 59, 32, 100, 111, 110, 101], [99, 97, 115, 101, 32, 120, 32, 105, 110, 32, 97, 41, 32, 59, 59, 32, 101, 115, 97, 99], [102, 40, 32, 97], [102, 40, 41, 32, 97], [116, 104, 101, 110], [97, 32, 62, 32, 59, 32, 98], [97, 32, 124, 32, 124, 32, 98], [33, 32, 33, 32, 97], [100, 111, 110, 101], [40, 41]]
def oddAt : List Nat := [0, 4, 0, 1, 13, 11, 5, 3, 13, 4, 6, 13, 3, 4, 0, 4, 4, 2, 0, 1]
def oddTell (a : Nat) : Except (Nat × Nat) (List Nd) → Bool
  | .ok _ => false
  | .error (n, c) => decide (n = a) && decide (c = 2)
def oddChk (i : Nat) : Bool := oddTell (oddAt.getD i 0) (parseN (oddN.getD i []).length (oddN.getD i [])) && decide ((oddN.getD i []).length ≤ 40) && (oddN.getD i []).all fun c => decide (0 < c) && decide (c < 128)
theorem odd_chk : ∀ i, i < 20 → oddChk i = true := by decide +kernel

/-! ### The statements' own known text -/
def knownN : List Nat := [97, 59, 32, 98, 32, 38, 38, 32, 99]
def knownTell : Except (Nat × Nat) (List Nd) → Bool
  | .ok ns => decide (ns.length = 5) && decide ((ns[0]?.map (·.op)) = some [115, 101, 113]) && decide ((ns[2]?.map (·.op)) = some [97, 110, 100])
  | .error _ => false
theorem known_chk : knownTell (parseN 9 knownN) = true := by decide +kernel
end Go.Proofs.YtakceggnadagmaaGreatDoor.ParseMath

namespace Go.Proofs.YtakceggnadagmaaGreatDoor
open Go Go.RowKit GlyphMath LexMath TreeMath ParseMath

theorem signs_new {w : World} (hS : Signs w) (o : Obj) : Signs (w.alloc o) := hS.kept (D := fun _ => False) (Kept.of_below (below_new w o)) fun h => h
theorem signs_below {w w' : World} (hS : Signs w) (hb : Below w.heap.size w w') : Signs w' := hS.kept (D := fun _ => False) (Kept.of_below hb) fun h => h
/-- THE CONTRACT OF THE PARSER. -/
theorem pparse_any (s : ByteArray) (w : World) (hS : Signs w) : Calls Tryz.prog 11 #[.string s] w fun e w' => PaEnd w w' e s := by
  cases hm : tokB s with
  | error x =>
    obtain ⟨n, c⟩ := x
    exact pparse_bad s w (signs_new hS _) hm
  | ok ts =>
    by_cases he : (scriptM ⟨ts, 0, 0⟩).2.err = 0
    · by_cases h2 : 200 < (laidM (scriptM ⟨ts, 0, 0⟩).1 []).length
      · exact pparse_much s w (signs_new hS _) hm he h2
      · exact pparse_good s w (signs_new hS _) hm he h2
    · exact pparse_fail s w (signs_new hS _) hm he
theorem parseB_low {s : ByteArray} {xs : List Nat} (hx : s.data.toList.map (·.toNat) = xs) (hl : ∀ b ∈ s.data.toList, 0 < b.toNat ∧ b.toNat < 128) (hn : xs.length ≤ 2000) : parseB s = parseN xs.length xs := by
  have hz : s.size = xs.length := by rw [← hx, List.length_map]; rfl
  have ht : isText s = true := by unfold isText; rw [firstBad_low _ hl]; rfl
  unfold parseB tokB parseN
  rw [if_neg (by omega), if_neg (by rw [ht]; decide), letters_low _ fun b hb => (hl b hb).2, hx, hz]
  try (cases tokensL xs.length (xs.length + 1) xs [] <;> rfl)
end Go.Proofs.YtakceggnadagmaaGreatDoor

namespace Go.Proofs.YtakceggnadagmaaGreatDoor
open Go Go.RowKit GlyphMath LexMath TreeMath ParseMath

def knownB : ByteArray := ⟨#[97, 59, 32, 98, 32, 38, 38, 32, 99]⟩
def knownFull : Except (Nat × Nat) (List Nd) → Bool
  | .ok ns => fullNs ns
  | .error _ => false
theorem known_full : knownFull (parseN 9 knownN) = true := by decide +kernel
theorem op_of {ns : List Nd} {k : Nat} {o : List UInt8} (h : (ns[k]?.map (·.op)) = some o) : ∃ n, ns[k]? = some n ∧ n.op = o := by
  cases hk : ns[k]? with
  | none => rw [hk] at h; cases h
  | some n => rw [hk] at h; exact ⟨n, rfl, by simpa using h⟩
theorem known_says : ∃ ns n0 n2, parseB knownB = .ok ns ∧ ns.length = 5 ∧ (ns[0]? = some n0 ∧ n0.op = [115, 101, 113]) ∧ (ns[2]? = some n2 ∧ n2.op = [97, 110, 100]) ∧ fullNs ns = true := by
  have h1 := known_chk
  have h2 := known_full
  have hb : parseB knownB = parseN 9 knownN := parseB_low (xs := knownN) (by decide) (by decide) (by decide)
  rw [hb]
  cases hm : parseN 9 knownN with
  | error x => rw [hm] at h1; cases h1
  | ok ns =>
    rw [hm] at h1 h2
    simp only [knownTell, Bool.and_eq_true, decide_eq_true_eq] at h1
    obtain ⟨⟨a, b⟩, c⟩ := h1
    obtain ⟨n0, b1, b2⟩ := op_of b
    obtain ⟨n2, c1, c2⟩ := op_of c
    exact ⟨ns, n0, n2, rfl, a, ⟨b1, b2⟩, ⟨c1, c2⟩, h2⟩
/-- The first cell of a node. -/
theorem ns_op {w : World} {v : Value} {ns : List Nd} {k : Nat} {n : Nd} (h : NsAt w v ns) (hk : ns[k]? = some n) : ∃ b o c, v = .slice (some ⟨b, o, none⟩) ns.length c ∧ w.cell? ⟨b, o + k * 7, none⟩ = some (txt n.op) := by
  obtain ⟨⟨p, c, rfl, hx⟩, -⟩ := h
  obtain ⟨cs, ⟨b, o, rfl, hs⟩, ⟨kv, wv, pv, av, rv, rfl, -⟩⟩ := hx k n hk
  exact ⟨b, o, c, rfl, hs 0 _ rfl⟩

set_option maxHeartbeats 4000000 in
set_option maxRecDepth 100000 in
theorem known_any (w : World) (hS : Signs w) : Calls Tryz.prog 14 #[] w fun e w' => e = .returned (.bool true) ∧ Below w.heap.size w w' := by
  have HT := Lib.hid (show Calls Tryz.prog 11 #[.string ⟨#[97, 59, 32, 98, 32, 38, 38, 32, 99]⟩] w (fun e w' => ∃ b o c, e = .returned (.tuple #[.agg #[.slice (some ⟨b, o, none⟩) 5 c, .int .i64 0], .int .i64 9, .int .i64 0]) ∧ w'.cell? ⟨b, o, none⟩ = some (.string ⟨#[115, 101, 113]⟩) ∧ w'.cell? ⟨b, o + 14, none⟩ = some (.string ⟨#[97, 110, 100]⟩) ∧ Below w.heap.size w w') from by
    refine (pparse_any knownB w hS).mono fun e w' h => ?_
    obtain ⟨ns, n0, n2, h1, h2, ⟨h3, h4⟩, ⟨h5, h6⟩, h7⟩ := known_says
    unfold PaEnd at h
    rw [h1] at h
    obtain ⟨v, rfl, -, hn, hb⟩ := h
    obtain ⟨b, o, c, rfl, c0⟩ := ns_op (hn h7) h3
    obtain ⟨b', o', c', e2, c2⟩ := ns_op (hn h7) h5
    simp only [Value.slice.injEq, Option.some.injEq, Addr.mk.injEq, and_true, true_and] at e2
    obtain ⟨⟨rfl, rfl⟩, rfl⟩ := e2
    rw [h4] at c0
    rw [h6] at c2
    rw [h2]
    exact ⟨b, o, c, rfl, by rw [Nat.zero_mul, Nat.add_zero] at c0; exact c0, c2, hb⟩)
  clear hS
  go_enter Tryz.func14, Tryz.ntmps14
  go_wp2_with (go_at_call 11; refine HT.out.mono ?_; rintro e w1 ⟨b, o, c, rfl, c0, c2, hb⟩; have HB := Lib.hid hb; have k0 := cell_alloc c0 (.cells #[.slice (some ⟨b, o, none⟩) 5 c, .int .i64 0] 24); have k2 := cell_alloc c2 (.cells #[.slice (some ⟨b, o, none⟩) 5 c, .int .i64 0] 24); clear hb)
  go_ret
  exact ⟨rfl, HB.out.alloc HB.out.size _⟩
end Go.Proofs.YtakceggnadagmaaGreatDoor
