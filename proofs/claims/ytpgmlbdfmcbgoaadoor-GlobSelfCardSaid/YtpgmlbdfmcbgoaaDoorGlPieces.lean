/-
  Proved: contract of pieces. Conditions: the pattern lies in memory; at most 100000 letters.
-/
import Derived.Test.YtpgmlbdfmcbgoaaDoorGlBracket
import Derived.Lib.OthersKept
import Derived.Laws.Cover4
namespace Go.Proofs.YtpgmlbdfmcbgoaaDoor
open Go Go.RowKit GlyphMath GlMath

/-- A piece's cells. -/
def pcCs : List (Pc × Value) → List Value
  | [] => []
  | x :: R => .bool x.1.many :: .bool x.1.neg :: x.2 :: pcCs R
theorem pcCs_add : ∀ (R : List (Pc × Value)) (x : Pc × Value), pcCs (R ++ [x]) = pcCs R ++ [.bool x.1.many, .bool x.1.neg, x.2]
  | [], _ => rfl
  | a :: R, x => by simp [pcCs, pcCs_add R x]
theorem infoPc : (Tryd.prog.info? 55).map (fun i => (i.zero, i.size, i.bytes)) = some (some (.agg #[.bool false, .bool false, .slice none 0 0]), 3, 32) := by kernel_rfl
theorem below_al {w0 w : World} (h : Below w0.heap.size w0 w) (o : Obj) : Below w0.heap.size w0 (w.alloc o) := h.alloc h.size o
/-- What is gathered so far. -/
def RelP (P0 : List Ch) (w : World) (v0 v3 v4 : Value) (wr : World) : Prop :=
  ∃ f e l R, v4 = .bool e ∧ ChAt w v0 l ∧ l.length ≤ f ∧ piecesM P0.length true P0 = (R : List (Pc × Value)).map (·.1) ++ piecesM f e l ∧ wr.ownsRow w.heap.size 55 3 v3 R.length (pcCs R) ∧ (∀ x ∈ R, ChAt w x.2 x.1.items) ∧ Below w.heap.size w wr ∧ R.length + l.length ≤ P0.length
theorem relP_add {P0 : List Ch} {w wr W w7 : World} {f : Nat} {e : Bool} {a : Ch} {l : List Ch} {R : List (Pc × Value)} {v0 v3 v7 vi : Value} (hf : l.length + 1 ≤ f + 1)
    (hp : piecesM P0.length true P0 = R.map (·.1) ++ piecesM (f + 1) e (a :: l)) (hR : ∀ x ∈ R, ChAt w x.2 x.1.items) (hn : R.length + (l.length + 1) ≤ P0.length)
    (hrow : wr.ownsRow w.heap.size 55 3 v3 R.length (pcCs R)) (hbw : Below w.heap.size w wr) (hb : Below wr.heap.size wr W)
    {many neg : Bool} {items : List Ch} {sz : Nat} {e' : Bool} (hpm : pieceM e a l = (⟨many, neg, items⟩, sz, e')) (hvi : ChAt w vi items) (hv0 : ChAt w v0 ((a :: l).drop sz))
    (hown : w7.ownsRow w.heap.size 55 3 v7 (R.length + 1) (pcCs R ++ [.bool many, .bool neg, vi])) (hg : W.grownBy w7 v3.ownBlock) : RelP P0 w v0 v7 (.bool e') w7 := by
  have hsz := piece_size e a l
  rw [hpm] at hsz
  refine ⟨f, e', (a :: l).drop sz, R ++ [(⟨many, neg, items⟩, vi)], rfl, hv0, ?_, ?_, ?_, ?_, ?_, ?_⟩
  · rw [List.length_drop, List.length_cons]; have := hsz.1; simp only at this; omega
  · rw [hp, piecesM, hpm]; simp
  · rw [pcCs_add, List.length_append]; exact hown
  · intro x hx
    rcases List.mem_append.1 hx with hx | hx
    · exact hR x hx
    · rw [List.mem_singleton.1 hx]; exact hvi
  · have h1 := hbw.trans (hb.mono hbw.size)
    exact h1.grown hg h1.size (fun k e => (World.ownsRow.lt hrow k e).1)
  · have := hsz.1; simp only at this; simp only [List.length_append, List.length_drop, List.length_cons, List.length_nil]; omega

theorem pc_news (w : World) (a b c : Value) : ∀ j u, ([a, b, c] : List Value)[j]? = some u → (w.alloc (.cells #[a, b, c] 55)).cell? ((⟨w.heap.size, 0, none⟩ : Addr).add j) = some u := fun j u hu => World.news_of_block (heap_alloc_new w _) j u (by simpa using hu)
theorem pc_newsN (W : World) (n : Nat) (hn : W.heap.size = n) (a b c : Value) : ∀ j u, ([a, b, c] : List Value)[j]? = some u → (W.alloc (.cells #[a, b, c] 55)).cell? ((⟨n, 0, none⟩ : Addr).add j) = some u := by subst hn; exact pc_news W a b c
theorem pc_one (a b : Bool) (q : Option Addr) (n c : Nat) : ∀ u ∈ ([.bool a, .bool b, .slice q n c] : List Value), u.oneCell' = true := fun u hu => by
  simp only [List.mem_cons, List.not_mem_nil, or_false] at hu
  rcases hu with rfl | rfl | rfl <;> rfl

set_option maxHeartbeats 2000000 in
theorem pieces_any (P0 : List Ch) (v : Value) (w : World) (h : ChAt w v P0) (hl : P0.length ≤ 100000) :
    Calls Tryd.prog 16 #[v] w fun en w' => ∃ R v', en = .returned v' ∧ R.map (·.1) = piecesM P0.length true P0 ∧ w'.ownsRow w.heap.size 55 3 v' R.length (pcCs R) ∧ (∀ x ∈ R, ChAt w x.2 x.1.items) ∧ Below w.heap.size w w' := by
  obtain ⟨i0, hi1, hi2, hi3, hi4⟩ := info_parts infoPc
  have HI := Lib.hid (And.intro hi1 (And.intro hi2 (And.intro hi3 hi4)))
  have HA := Lib.hid h
  have HL := Lib.hid hl
  obtain ⟨p, c, rfl, -⟩ := h.is
  clear h hl hi1 hi2 hi3 hi4
  go_enter Tryd.func16, Tryd.ntmps16
  go_wp2_with fail
  go_loopw [0, 3, 4] (fun v0 v3 v4 wr => RelP P0 w v0 v3 v4 wr) (fun v0 _ _ _ => lenV v0)
  case atStart => exact ⟨P0.length, true, P0, [], rfl, HA.out, Nat.le_refl _, rfl, World.ownsRow_nil _ _ _ _, fun x hx => by simp at hx, Below.refl _ _, by simp⟩
  case round =>
    obtain ⟨f, e, l, R, rfl, hat, hf, hp, hrow, hR, hbw, hn⟩ := hrel
    obtain ⟨p, c, rfl, hlc, hcm, -⟩ := hat.is
    cases l with
    | nil =>
      have hp' : R.map (·.1) = piecesM P0.length true P0 := by rw [hp]; cases f <;> simp [piecesM]
      have HE := Lib.hid (And.intro hp' (And.intro hrow (And.intro hR hbw)))
      clear hp hrow hR hbw hn hat hf hp' hlc hcm
      go_wp2_with fail
      go_ret
      exact ⟨R, _, rfl, HE.out.1, HE.out.2.1, HE.out.2.2.1, HE.out.2.2.2⟩
    | cons a l =>
      cases f with
      | zero => simp at hf
      | succ f =>
      obtain ⟨b, o, hq, ca, cb⟩ := hat.get (k := 0) (x := a) rfl
      subst hq
      rw [Nat.zero_mul, Nat.add_zero] at ca cb
      obtain ⟨N, hN⟩ : ∃ N, (a :: l).length = N := ⟨_, rfl⟩
      have HN := Lib.hid hN
      obtain ⟨q1, hq1⟩ := sliced_is (some ⟨b, o, none⟩) 0 1 c 2
      have hc1 : 1 ≤ c := by rw [List.length_cons] at hlc; omega
      have hsl1 : ∀ W, (Instr.slice 22 (.slice (some ⟨b, o, none⟩) N c) none (some (.int .i64 1)) none).run Tryd.prog W = .ok (.slice q1 1 c) W := fun W => by
        rw [run_upto (k := 1) _ N 1 rfl hc1 W, hq1]; rfl
      have HA1 := Lib.hid (show ChAt w (.slice q1 1 c) [a] by
        have := hat.take 1 (by simp)
        rw [hq1] at this
        exact this)
      have HBR := Lib.hid (fun W hb => bracket_any a l (.slice (some ⟨b, o, none⟩) (a :: l).length c) w W hat hb)
      have HAT := Lib.hid hat
      have ca' := (hbw.cell (World.block_lt_of_cell? w _ ca)).trans ca
      have cb' := (hbw.cell (World.block_lt_of_cell? w _ cb)).trans cb
      obtain ⟨a1, a2⟩ := a
      simp only at ca' cb'
      obtain ⟨W1, hW1⟩ : ∃ W1, wr.alloc (.cells #[.bool false, .bool false, .slice q1 1 c] 55) = W1 := ⟨_, rfl⟩
      have hb1 : Below wr.heap.size wr W1 := by rw [← hW1]; exact below_al (Below.refl _ wr) _
      have hk1 : W1.heap[wr.heap.size]? = some (.cells #[.bool false, .bool false, .slice q1 1 c] 55) := by rw [← hW1]; exact heap_alloc_new wr _
      have hX1 : wr.heap.size < W1.heap.size := by rw [← hW1]; simp
      have HB1 := Lib.hid hb1
      have hsw : w.heap.size ≤ wr.heap.size := hbw.size
      have HCC := Lib.hid (fun (W : World) (hb : Below W1.heap.size W1 W) => (show (W.cell? ⟨b, o, none⟩ = some (.int .i32 a1) ∧ W.cell? ⟨b, o + 1, none⟩ = some (.bool a2)) ∧ (W.cell? ⟨wr.heap.size, 0, none⟩ = some (.bool false) ∧ W.cell? ⟨wr.heap.size, 1, none⟩ = some (.bool false) ∧ W.cell? ⟨wr.heap.size, 2, none⟩ = some (.slice q1 1 c)) ∧ W.frozen? ⟨wr.heap.size, 0, none⟩ = false ∧ W.frozen? ⟨wr.heap.size, 1, none⟩ = false ∧ W.frozen? ⟨wr.heap.size, 2, none⟩ = false from by
        have hk := (hb.block _ hX1).trans hk1
        have e0 := (hb1.cell (World.block_lt_of_cell? wr _ ca')).trans ca'
        have e1 := (hb1.cell (World.block_lt_of_cell? wr _ cb')).trans cb'
        exact ⟨⟨(hb.cell (World.block_lt_of_cell? W1 _ e0)).trans e0, (hb.cell (World.block_lt_of_cell? W1 _ e1)).trans e1⟩, ⟨cell_of_row W _ 0 _ _ _ hk, cell_of_row W _ 1 _ _ _ hk, cell_of_row W _ 2 _ _ _ hk⟩, Lib.frozen_of_heap hk 0, Lib.frozen_of_heap hk 1, Lib.frozen_of_heap hk 2⟩))
      have HBW := Lib.hid (fun (W : World) (hb : Below W1.heap.size W1 W) => (show Below wr.heap.size wr W from hb1.trans (hb.mono (Nat.le_of_lt hX1))))
      have HBB := Lib.hid (fun (W : World) (hb : Below W1.heap.size W1 W) => (show Below w.heap.size w W from hbw.trans ((hb1.trans (hb.mono (Nat.le_of_lt hX1))).mono hsw)))
      have HI42 := Lib.hid (fun W => is_any (a1, a2) 42 W)
      have HI63 := Lib.hid (fun W => is_any (a1, a2) 63 W)
      have HI91 := Lib.hid (fun W => is_any (a1, a2) 91 W)
      have CO := Lib.hid (fun (W : World) (hb : Below wr.heap.size wr W) => (show W.ownsRow w.heap.size 55 3 u3 R.length (pcCs R) from World.ownsRow.kept hrow (grown_of_below hb) (by cases hv : u3.ownBlock with | none => exact .inl rfl | some k => exact .inr (by simp))))
      have HM := Lib.hid (show R.length + 1 ≤ maxLen ∧ (R.length + 1) * 32 ≤ 140737488355328 from by have := HL.out; rw [List.length_cons] at hn; unfold maxLen; constructor <;> omega)
      have hN0 : (0 : Int) < (N : Int) := by rw [← hN, List.length_cons]; omega
      have HZ := Lib.hid (fun (W : World) (hb : Below wr.heap.size wr W) => (show w.heap.size ≤ W.heap.size from Nat.le_trans hsw hb.size))
      have HPM := Lib.hid (fun (many neg : Bool) (items : List Ch) (sz : Nat) (e' : Bool) (hpm : pieceM e (a1, a2) l = (⟨many, neg, items⟩, sz, e')) (v0 vi v7 : Value) (W w7 : World) (hvi : ChAt w vi items) (hv0 : ChAt w v0 (((a1, a2) :: l).drop sz)) (hb : Below wr.heap.size wr W) (hown : w7.ownsRow w.heap.size 55 3 v7 (R.length + 1) (pcCs R ++ [.bool many, .bool neg, vi])) (hg : W.grownBy w7 u3.ownBlock) => relP_add hf hp hR hn hrow hbw hb hpm hvi hv0 hown hg)
      have HDR := Lib.hid (fun (sz : Nat) (hz : sz ≤ N) => (show ChAt w (sliced (some ⟨b, o, none⟩) sz N c 2) (((a1, a2) :: l).drop sz) from by have := hat.drop sz (by rw [hN]; exact hz); rwa [hN] at this))
      have hpm : pieceM e (a1, a2) l = if isM (a1, a2) 42 then (⟨true, false, []⟩, 1, e) else if isM (a1, a2) 63 then (⟨false, true, []⟩, 1, e) else if isM (a1, a2) 91 && e then (match bracketM ((a1, a2) :: l) with | some (b, n) => (b, n, e) | none => (⟨false, false, [(a1, a2)]⟩, 1, false)) else (⟨false, false, [(a1, a2)]⟩, 1, e) := rfl
      have hps := piece_size e (a1, a2) l
      rw [hN] at HBR ⊢
      obtain ⟨D42, h42⟩ : ∃ D, isM (a1, a2) 42 = D := ⟨_, rfl⟩
      obtain ⟨D63, h63⟩ : ∃ D, isM (a1, a2) 63 = D := ⟨_, rfl⟩
      obtain ⟨D91, h91⟩ : ∃ D, isM (a1, a2) 91 = D := ⟨_, rfl⟩
      rw [h42, h63, h91] at hpm
      simp only [h42] at HI42
      simp only [h63] at HI63
      simp only [h91] at HI91
      have hN1 : N = l.length + 1 := by rw [← hN]; rfl
      clear ca cb hq1 hc1 hat hk1 hX1 hb1 hsw hf hp hrow hR hbw hn hN h42 h63 h91 hlc hcm
      obtain ⟨q5, hq5⟩ := sliced_is (some ⟨b, o, none⟩) 1 N c 2
      have hsl5 : ∀ W, (Instr.slice 22 (.slice (some ⟨b, o, none⟩) N c) (some (.int .i64 1)) none none).run Tryd.prog W = .ok (.slice q5 (N - 1) (c - 1)) W := fun W => by
        rw [run_from (k := 1) _ c 1 rfl (by omega) W, hq5]
      have HQ5 := Lib.hid hq5
      have HN1 := Lib.hid hN1
      clear hq5 hN1
      have HSZ := Lib.hid (show True ∧ True from ⟨trivial, trivial⟩)
      have HPS := Lib.hid hps
      clear hps
      cases D42 with
      | true =>
      have HPQ := Lib.hid hpm
      clear hpm
      obtain ⟨⟨ca, cb⟩, ⟨d0, d1, d2⟩, f0, f1, f2⟩ := HCC.out _ (Below.refl _ W1)
      go_wp2_with (first
        | (rw [hW1]; clear hW1)
        | (go_at_call 19; (with_reducible refine (HI42.out _).mono ?_); rintro en w2 ⟨rfl, hb2⟩; have HB2 := Lib.hid hb2; clear hb2 HI42; obtain ⟨⟨ca, cb⟩, ⟨d0, d1, d2⟩, f0, f1, f2⟩ := HCC.out _ HB2.out)
        | (at_builtin; refine wpList_append_own _ rfl _ _ 37 rfl w.heap.size 55 i0 (.agg #[.bool false, .bool false, .slice none 0 0]) 3 32 Tryd.underlying37 HI.out.1 HI.out.2.1 HI.out.2.2.1 HI.out.2.2.2 rfl (by decide) u3 R.length (pcCs R) rfl (CO.out _ (below_al (below_set (below_set (below_set (HBW.out _ HB2.out)))) _)) ⟨_, 0, none⟩ 1 1 [.bool true, .bool false, .slice none 0 0] (by rfl) (by rfl) (pc_newsN _ _ (by simp [World.setCell]) _ _ _) (pc_one _ _ _ _ _) HM.out.1 HM.out.2 (HZ.out _ (below_al (below_set (below_set (below_set (HBW.out _ HB2.out)))) _)) ?_; intro v7 w7 hown7 hg7 _; have HO7 := Lib.hid hown7; have HG7 := Lib.hid hg7; clear hown7 hg7))
      go_roundw
      case rel => exact HPM.out true false [] 1 e HPQ.out _ _ _ _ _ (ChAt.nil w) (by have := HDR.out 1 (by have := HN1.out; have := HSZ.out; omega); rw [HQ5.out] at this; exact this) (below_al (below_set (below_set (below_set (HBW.out _ HB2.out)))) _) HO7.out HG7.out
      case measure => show N - 1 < N; have := HN1.out; have := HSZ.out; omega
      | false =>
      cases D63 with
      | true =>
      have HPQ := Lib.hid hpm
      clear hpm
      obtain ⟨⟨ca, cb⟩, ⟨d0, d1, d2⟩, f0, f1, f2⟩ := HCC.out _ (Below.refl _ W1)
      go_wp2_with (first
        | (rw [hW1]; clear hW1)
        | (go_at_call 19; (with_reducible refine (HI42.out _).mono ?_); rintro en w2 ⟨rfl, hb2⟩; have HB2 := Lib.hid hb2; clear hb2 HI42; obtain ⟨⟨ca, cb⟩, ⟨d0, d1, d2⟩, f0, f1, f2⟩ := HCC.out _ HB2.out)
        | (go_at_call 19; (with_reducible refine (HI63.out _).mono ?_); rintro en w3 ⟨rfl, hb3⟩; have HB3 := Lib.hid (HB2.out.trans (hb3.mono HB2.out.size)); clear hb3 HI63; obtain ⟨⟨ca, cb⟩, ⟨d0, d1, d2⟩, f0, f1, f2⟩ := HCC.out _ HB3.out)
        | (at_builtin; refine wpList_append_own _ rfl _ _ 37 rfl w.heap.size 55 i0 (.agg #[.bool false, .bool false, .slice none 0 0]) 3 32 Tryd.underlying37 HI.out.1 HI.out.2.1 HI.out.2.2.1 HI.out.2.2.2 rfl (by decide) u3 R.length (pcCs R) rfl (CO.out _ (below_al (below_set (below_set (below_set (HBW.out _ HB3.out)))) _)) ⟨_, 0, none⟩ 1 1 [.bool false, .bool true, .slice none 0 0] (by rfl) (by rfl) (pc_newsN _ _ (by simp [World.setCell]) _ _ _) (pc_one _ _ _ _ _) HM.out.1 HM.out.2 (HZ.out _ (below_al (below_set (below_set (below_set (HBW.out _ HB3.out)))) _)) ?_; intro v7 w7 hown7 hg7 _; have HO7 := Lib.hid hown7; have HG7 := Lib.hid hg7; clear hown7 hg7))
      go_roundw
      case rel => exact HPM.out false true [] 1 e HPQ.out _ _ _ _ _ (ChAt.nil w) (by have := HDR.out 1 (by have := HN1.out; have := HSZ.out; omega); rw [HQ5.out] at this; exact this) (below_al (below_set (below_set (below_set (HBW.out _ HB3.out)))) _) HO7.out HG7.out
      case measure => show N - 1 < N; have := HN1.out; have := HSZ.out; omega
      | false =>
      cases D91 with
      | false =>
      have HPQ := Lib.hid hpm
      clear hpm
      obtain ⟨⟨ca, cb⟩, ⟨d0, d1, d2⟩, f0, f1, f2⟩ := HCC.out _ (Below.refl _ W1)
      go_wp2_with (first
        | (rw [hW1]; clear hW1)
        | (go_at_call 19; (with_reducible refine (HI42.out _).mono ?_); rintro en w2 ⟨rfl, hb2⟩; have HB2 := Lib.hid hb2; clear hb2 HI42; obtain ⟨⟨ca, cb⟩, ⟨d0, d1, d2⟩, f0, f1, f2⟩ := HCC.out _ HB2.out)
        | (go_at_call 19; (with_reducible refine (HI63.out _).mono ?_); rintro en w3 ⟨rfl, hb3⟩; have HB3 := Lib.hid (HB2.out.trans (hb3.mono HB2.out.size)); clear hb3 HI63; obtain ⟨⟨ca, cb⟩, ⟨d0, d1, d2⟩, f0, f1, f2⟩ := HCC.out _ HB3.out)
        | (go_at_call 19; (with_reducible refine (HI91.out _).mono ?_); rintro en w4 ⟨rfl, hb4⟩; have HB4 := Lib.hid (HB3.out.trans (hb4.mono HB3.out.size)); clear hb4 HI91; obtain ⟨⟨ca, cb⟩, ⟨d0, d1, d2⟩, f0, f1, f2⟩ := HCC.out _ HB4.out)
        | (at_builtin; refine wpList_append_own _ rfl _ _ 37 rfl w.heap.size 55 i0 (.agg #[.bool false, .bool false, .slice none 0 0]) 3 32 Tryd.underlying37 HI.out.1 HI.out.2.1 HI.out.2.2.1 HI.out.2.2.2 rfl (by decide) u3 R.length (pcCs R) rfl (CO.out _ (below_al (HBW.out _ HB4.out) _)) ⟨_, 0, none⟩ 1 1 [.bool false, .bool false, .slice q1 1 c] (by rfl) (by rfl) (pc_newsN _ _ (by simp) _ _ _) (pc_one _ _ _ _ _) HM.out.1 HM.out.2 (HZ.out _ (below_al (HBW.out _ HB4.out) _)) ?_; intro v7 w7 hown7 hg7 _; have HO7 := Lib.hid hown7; have HG7 := Lib.hid hg7; clear hown7 hg7))
      go_roundw
      case rel => exact HPM.out false false [(a1, a2)] 1 e HPQ.out _ _ _ _ _ HA1.out (by have := HDR.out 1 (by have := HN1.out; have := HSZ.out; omega); rw [HQ5.out] at this; exact this) (below_al (HBW.out _ HB4.out) _) HO7.out HG7.out
      case measure => show N - 1 < N; have := HN1.out; have := HSZ.out; omega
      | true =>
      cases e with
      | false =>
      have HPQ := Lib.hid hpm
      clear hpm
      obtain ⟨⟨ca, cb⟩, ⟨d0, d1, d2⟩, f0, f1, f2⟩ := HCC.out _ (Below.refl _ W1)
      go_wp2_with (first
        | (rw [hW1]; clear hW1)
        | (go_at_call 19; (with_reducible refine (HI42.out _).mono ?_); rintro en w2 ⟨rfl, hb2⟩; have HB2 := Lib.hid hb2; clear hb2 HI42; obtain ⟨⟨ca, cb⟩, ⟨d0, d1, d2⟩, f0, f1, f2⟩ := HCC.out _ HB2.out)
        | (go_at_call 19; (with_reducible refine (HI63.out _).mono ?_); rintro en w3 ⟨rfl, hb3⟩; have HB3 := Lib.hid (HB2.out.trans (hb3.mono HB2.out.size)); clear hb3 HI63; obtain ⟨⟨ca, cb⟩, ⟨d0, d1, d2⟩, f0, f1, f2⟩ := HCC.out _ HB3.out)
        | (go_at_call 19; (with_reducible refine (HI91.out _).mono ?_); rintro en w4 ⟨rfl, hb4⟩; have HB4 := Lib.hid (HB3.out.trans (hb4.mono HB3.out.size)); clear hb4 HI91; obtain ⟨⟨ca, cb⟩, ⟨d0, d1, d2⟩, f0, f1, f2⟩ := HCC.out _ HB4.out)
        | (at_builtin; refine wpList_append_own _ rfl _ _ 37 rfl w.heap.size 55 i0 (.agg #[.bool false, .bool false, .slice none 0 0]) 3 32 Tryd.underlying37 HI.out.1 HI.out.2.1 HI.out.2.2.1 HI.out.2.2.2 rfl (by decide) u3 R.length (pcCs R) rfl (CO.out _ (below_al (HBW.out _ HB4.out) _)) ⟨_, 0, none⟩ 1 1 [.bool false, .bool false, .slice q1 1 c] (by rfl) (by rfl) (pc_newsN _ _ (by simp) _ _ _) (pc_one _ _ _ _ _) HM.out.1 HM.out.2 (HZ.out _ (below_al (HBW.out _ HB4.out) _)) ?_; intro v7 w7 hown7 hg7 _; have HO7 := Lib.hid hown7; have HG7 := Lib.hid hg7; clear hown7 hg7))
      go_roundw
      case rel => exact HPM.out false false [(a1, a2)] 1 false HPQ.out _ _ _ _ _ HA1.out (by have := HDR.out 1 (by have := HN1.out; have := HSZ.out; omega); rw [HQ5.out] at this; exact this) (below_al (HBW.out _ HB4.out) _) HO7.out HG7.out
      case measure => show N - 1 < N; have := HN1.out; have := HSZ.out; omega
      | true =>
      cases hbr : bracketM ((a1, a2) :: l) with
      | none =>
      have HPQ := Lib.hid (show pieceM true (a1, a2) l = (⟨false, false, [(a1, a2)]⟩, 1, false) by rw [hpm, hbr]; rfl)
      rw [hbr] at HBR
      clear hpm hbr
      obtain ⟨⟨ca, cb⟩, ⟨d0, d1, d2⟩, f0, f1, f2⟩ := HCC.out _ (Below.refl _ W1)
      go_wp2_with (first
        | (rw [hW1]; clear hW1)
        | (go_at_call 19; (with_reducible refine (HI42.out _).mono ?_); rintro en w2 ⟨rfl, hb2⟩; have HB2 := Lib.hid hb2; clear hb2 HI42; obtain ⟨⟨ca, cb⟩, ⟨d0, d1, d2⟩, f0, f1, f2⟩ := HCC.out _ HB2.out)
        | (go_at_call 19; (with_reducible refine (HI63.out _).mono ?_); rintro en w3 ⟨rfl, hb3⟩; have HB3 := Lib.hid (HB2.out.trans (hb3.mono HB2.out.size)); clear hb3 HI63; obtain ⟨⟨ca, cb⟩, ⟨d0, d1, d2⟩, f0, f1, f2⟩ := HCC.out _ HB3.out)
        | (go_at_call 19; (with_reducible refine (HI91.out _).mono ?_); rintro en w4 ⟨rfl, hb4⟩; have HB4 := Lib.hid (HB3.out.trans (hb4.mono HB3.out.size)); clear hb4 HI91; obtain ⟨⟨ca, cb⟩, ⟨d0, d1, d2⟩, f0, f1, f2⟩ := HCC.out _ HB4.out)
        | (go_at_call 27; (with_reducible refine (HBR.out _ (HBB.out _ HB4.out)).mono ?_); rintro en w5 ⟨he5, hb5⟩; obtain rfl := he5; have HB5 := Lib.hid (below_al (HB4.out.trans (hb5.mono HB4.out.size)) (.cells #[.bool false, .bool false, .slice none 0 0] 55)); clear hb5; obtain ⟨⟨ca, cb⟩, ⟨d0, d1, d2⟩, f0, f1, f2⟩ := HCC.out _ HB5.out)
        | (at_builtin; refine wpList_append_own _ rfl _ _ 37 rfl w.heap.size 55 i0 (.agg #[.bool false, .bool false, .slice none 0 0]) 3 32 Tryd.underlying37 HI.out.1 HI.out.2.1 HI.out.2.2.1 HI.out.2.2.2 rfl (by decide) u3 R.length (pcCs R) rfl (CO.out _ (below_al (HBW.out _ HB5.out) _)) ⟨_, 0, none⟩ 1 1 [.bool false, .bool false, .slice q1 1 c] (by rfl) (by rfl) (pc_newsN _ _ (by simp) _ _ _) (pc_one _ _ _ _ _) HM.out.1 HM.out.2 (HZ.out _ (below_al (HBW.out _ HB5.out) _)) ?_; intro v7 w7 hown7 hg7 _; have HO7 := Lib.hid hown7; have HG7 := Lib.hid hg7; clear hown7 hg7))
      go_roundw
      case rel => exact HPM.out false false [(a1, a2)] 1 false HPQ.out _ _ _ _ _ HA1.out (by have := HDR.out 1 (by have := HN1.out; have := HSZ.out; omega); rw [HQ5.out] at this; exact this) (below_al (HBW.out _ HB5.out) _) HO7.out HG7.out
      case measure => show N - 1 < N; have := HN1.out; have := HSZ.out; omega
      | some x =>
      obtain ⟨⟨bm, bn, bi⟩, sz⟩ := x
      have HPQ := Lib.hid (show pieceM true (a1, a2) l = (⟨bm, bn, bi⟩, sz, true) by rw [hpm, hbr]; rfl)
      have hzz := bracket_size hbr
      rw [hbr] at HBR
      rw [List.length_cons] at hzz
      have HSZ := Lib.hid hzz
      have hz0 : (0 : Int) < (sz : Int) := by omega
      obtain ⟨q6, hq6⟩ := sliced_is (some ⟨b, o, none⟩) sz N c 2
      have hsl6 : ∀ W, (Instr.slice 22 (.slice (some ⟨b, o, none⟩) N c) (some (.int .i64 (sz : Int))) none none).run Tryd.prog W = .ok (.slice q6 (N - sz) (c - sz)) W := fun W => by
        rw [run_from (k := sz) _ c _ rfl (by have := HN1.out; omega) W, hq6]
      have HQ6 := Lib.hid hq6
      clear hpm hbr hzz hq6 hsl5
      obtain ⟨⟨ca, cb⟩, ⟨d0, d1, d2⟩, f0, f1, f2⟩ := HCC.out _ (Below.refl _ W1)
      go_wp2_with (first
        | (rw [hW1]; clear hW1)
        | (go_at_call 19; (with_reducible refine (HI42.out _).mono ?_); rintro en w2 ⟨rfl, hb2⟩; have HB2 := Lib.hid hb2; clear hb2 HI42; obtain ⟨⟨ca, cb⟩, ⟨d0, d1, d2⟩, f0, f1, f2⟩ := HCC.out _ HB2.out)
        | (go_at_call 19; (with_reducible refine (HI63.out _).mono ?_); rintro en w3 ⟨rfl, hb3⟩; have HB3 := Lib.hid (HB2.out.trans (hb3.mono HB2.out.size)); clear hb3 HI63; obtain ⟨⟨ca, cb⟩, ⟨d0, d1, d2⟩, f0, f1, f2⟩ := HCC.out _ HB3.out)
        | (go_at_call 19; (with_reducible refine (HI91.out _).mono ?_); rintro en w4 ⟨rfl, hb4⟩; have HB4 := Lib.hid (HB3.out.trans (hb4.mono HB3.out.size)); clear hb4 HI91; obtain ⟨⟨ca, cb⟩, ⟨d0, d1, d2⟩, f0, f1, f2⟩ := HCC.out _ HB4.out)
        | (go_at_call 27; (with_reducible refine (HBR.out _ (HBB.out _ HB4.out)).mono ?_); rintro en w5 ⟨⟨v5, he5, hat5⟩, hb5⟩; obtain ⟨p5, c5, hv5, -⟩ := hat5.is; subst hv5; obtain rfl := he5; have HAT5 := Lib.hid hat5; have HB5 := Lib.hid (below_al (HB4.out.trans (hb5.mono HB4.out.size)) (.cells #[.bool bm, .bool bn, .slice p5 bi.length c5] 55)); clear hb5 hat5; obtain ⟨⟨ca, cb⟩, ⟨d0, d1, d2⟩, f0, f1, f2⟩ := HCC.out _ HB5.out)
        | (at_builtin; refine wpList_append_own _ rfl _ _ 37 rfl w.heap.size 55 i0 (.agg #[.bool false, .bool false, .slice none 0 0]) 3 32 Tryd.underlying37 HI.out.1 HI.out.2.1 HI.out.2.2.1 HI.out.2.2.2 rfl (by decide) u3 R.length (pcCs R) rfl (CO.out _ (below_al (below_set (below_set (below_set (HBW.out _ HB5.out)))) _)) ⟨_, 0, none⟩ 1 1 [.bool bm, .bool bn, .slice p5 bi.length c5] (by rfl) (by rfl) (pc_newsN _ _ (by simp [World.setCell]) _ _ _) (pc_one _ _ _ _ _) HM.out.1 HM.out.2 (HZ.out _ (below_al (below_set (below_set (below_set (HBW.out _ HB5.out)))) _)) ?_; intro v7 w7 hown7 hg7 _; have HO7 := Lib.hid hown7; have HG7 := Lib.hid hg7; clear hown7 hg7))
      go_roundw
      case rel => exact HPM.out bm bn bi sz true HPQ.out _ _ _ _ _ HAT5.out (by have := HDR.out sz (by have := HN1.out; have := HSZ.out; omega); rw [HQ6.out] at this; exact this) (below_al (below_set (below_set (below_set (HBW.out _ HB5.out)))) _) HO7.out HG7.out
      case measure => show N - sz < N; have := HN1.out; have := HSZ.out; omega
end Go.Proofs.YtpgmlbdfmcbgoaaDoor
