/-
  Proved: contract of bracket. Conditions: the pattern lies in memory and is not empty.
-/
import Derived.Test.YtpgmlbdfmcbgoaaDoorGlTakes
import Derived.Deep.WholeRow
import Derived.Deep.MidRow
import Derived.Deep.AppendLies
namespace Go.Proofs.YtpgmlbdfmcbgoaaDoor
open Go Go.RowKit GlyphMath GlMath

theorem piece_info : (Tryd.prog.info? 55).map (·.size) = some 3 := by kernel_rfl
theorem ret_piece {fn : Func} {p u : Tmp} (hf : fn.results = #[.cell p 55, .tmp u]) {tmps : Array Value} {k : Nat} {a b c x : Value} {w : World} {t : TypeId} {fr : Nat × Nat} (h : w.heap[k]? = some (.cells #[a, b, c] t fr)) (h2 : tmps.getD p undef = .pointer (some ⟨k, 0, none⟩)) (h3 : tmps.getD u undef = x) :
    (results fn tmps).run Tryd.prog w = .ok (.tuple #[.agg #[a, b, c], x]) w := by
  rw [results_cell_tmp hf, h2, h3]
  have h4 : (loadVar 55 ⟨k, 0, none⟩).run Tryd.prog w = .ok (.agg #[a, b, c]) w := run_loadVar_row (P := Tryd.prog) w k t 55 _ fr _ h Tryd.underlying55 rfl piece_info
  simp [asAddr, Result.andThen, h4]

/-- What bracket answers. -/
def BrEnd (w : World) (e : Ending) : Option (Pc × Nat) → Prop
  | some (b, n) => ∃ v, e = .returned (.tuple #[.agg #[.bool b.many, .bool b.neg, v], .int .i64 (n : Int)]) ∧ ChAt w v b.items
  | none => e = .returned (.tuple #[.agg #[.bool false, .bool false, .slice none 0 0], .int .i64 0])
/-- Ahead of the end, and not there yet. -/
def RelB (X : Nat) (w1 : World) (neg : Bool) (l : List Ch) (S : Option Nat) (v : Value) (wr : World) : Prop :=
  ∃ k : Nat, v = .int .i64 (k : Int) ∧ k ≤ l.length ∧ shutM k (l.drop k) = S ∧ X < w1.heap.size ∧ w1.heap[X]? = some (.cells #[.bool false, .bool neg, .slice none 0 0] 55) ∧ Below w1.heap.size w1 wr
theorem bset2 {w : World} {X : Nat} {a b c u : Value} (h : w.heap[X]? = some (.cells #[a, b, c] 55)) : (w.setCell ⟨X, 2, none⟩ u).heap[X]? = some (.cells #[a, b, u] 55) := by simp [World.setCell, Array.getElem?_modify, h]
theorem bset0 {w : World} {X : Nat} {a b c u : Value} (h : w.heap[X]? = some (.cells #[a, b, c] 55)) : (w.setCell ⟨X, 0, none⟩ u).heap[X]? = some (.cells #[u, b, c] 55) := by simp [World.setCell, Array.getElem?_modify, h]
theorem bset1 {w : World} {X : Nat} {a b c u : Value} (h : w.heap[X]? = some (.cells #[a, b, c] 55)) : (w.setCell ⟨X, 1, none⟩ u).heap[X]? = some (.cells #[a, u, c] 55) := by simp [World.setCell, Array.getElem?_modify, h]
theorem below_set {w0 w : World} {X o : Nat} {u : Value} (h : Below X w0 w) : Below X w0 (w.setCell ⟨X, o, none⟩ u) := ⟨h.os, h.tape, h.output, by have := h.size; simpa [World.setCell] using this, fun k hk => (Below.heap_setCell w ⟨X, o, none⟩ u k (fun e => by simp at e; omega)).trans (h.block k hk)⟩

theorem ChAt.get {w : World} {p : Option Addr} {n c : Nat} {l : List Ch} (h : ChAt w (.slice p n c) l) {k : Nat} {x : Ch} (hx : l[k]? = some x) : ∃ b o, p = some ⟨b, o, none⟩ ∧ w.cell? ⟨b, o + k * 2, none⟩ = some (.int .i32 x.1) ∧ w.cell? ⟨b, o + k * 2 + 1, none⟩ = some (.bool x.2) := by
  obtain ⟨p', c', hv, h1, h2, h3⟩ := h.is
  simp only [Value.slice.injEq] at hv
  obtain ⟨rfl, rfl, rfl⟩ := hv
  rcases h3 with ⟨rfl, rfl⟩ | ⟨b, o, rfl, hc⟩
  · have := (List.getElem?_eq_some_iff.1 hx).1; omega
  · exact ⟨b, o, rfl, hc k x hx⟩
theorem drop_at {α : Type} {l : List α} {j : Nat} {q : α} (h : l[j]? = some q) : l.drop j = q :: l.drop (j + 1) := by
  obtain ⟨hj, rfl⟩ := List.getElem?_eq_some_iff.1 h
  exact List.drop_eq_getElem_cons hj

theorem ChAt.cap {w : World} {p : Option Addr} {n c : Nat} {l : List Ch} (h : ChAt w (.slice p n c) l) : n = l.length ∧ n ≤ c ∧ c ≤ maxLen := by
  obtain ⟨p', c', hv, h1, h2, h3⟩ := h.is
  simp only [Value.slice.injEq] at hv
  obtain ⟨rfl, rfl, rfl⟩ := hv
  exact ⟨rfl, h1, h2⟩
/-- What is known of a bracket's inner letters. -/
structure BrF (w : World) (P0 : List Ch) (neg : Bool) (L : List Ch) (S : Option Nat) (M2 : Nat) (q2 : Option Addr) (c2 N : Nat) : Prop where
  s : shutM 0 L = S
  at_ : ChAt w (.slice q2 M2 c2) L
  m : L.length = M2
  mm : M2 ≤ maxLen
  c : M2 ≤ c2
  nm : M2 + 1 ≤ N
  nl : N ≤ maxLen
  be : bracketM P0 = S.map fun i => (⟨false, neg, L.take i⟩, N - M2 + i + 1)
theorem BrF.of {w : World} {P0 : List Ch} {neg : Bool} {L : List Ch} {S : Option Nat} {M2 : Nat} {q2 : Option Addr} {c2 N : Nat} (hN : P0.length = N) (hNL : N ≤ maxLen) (h0 : M2 + 1 ≤ N) (hL : withinM P0 = L) (hn : negM (P0.drop 1) = neg) (hS : shutM 0 L = S) (hat : ChAt w (.slice q2 M2 c2) L) : BrF w P0 neg L S M2 q2 c2 N where
  s := hS
  at_ := hat
  m := hat.cap.1.symm
  mm := by have := hat.cap; omega
  c := hat.cap.2.1
  nm := h0
  nl := hNL
  be := by unfold bracketM; rw [hL, hS, hn, hN, ← hat.cap.1]

set_option maxHeartbeats 1000000 in
theorem bracket_any (a : Ch) (l : List Ch) (v : Value) (w0 w : World) (h : ChAt w0 v (a :: l)) (hw0 : Below w0.heap.size w0 w) :
    Calls Tryd.prog 27 #[v] w fun e w' => BrEnd w0 e (bracketM (a :: l)) ∧ Below w.heap.size w w' := by
  have HW0 := Lib.hid hw0
  obtain ⟨S, hS⟩ : ∃ S, shutM 0 (withinM (a :: l)) = S := ⟨_, rfl⟩
  obtain ⟨W1, hW1⟩ : ∃ W1, w.alloc (.cells #[.bool false, .bool false, .slice none 0 0] 55) = W1 := ⟨_, rfl⟩
  have hb : Below w.heap.size w W1 := by rw [← hW1]; exact (Below.refl _ w).alloc (Nat.le_refl _) _
  have hblk : W1.heap[w.heap.size]? = some (.cells #[.bool false, .bool false, .slice none 0 0] 55) := by rw [← hW1]; exact heap_alloc_new w _
  have hXlt : w.heap.size < W1.heap.size := by rw [← hW1]; simp
  have hNL := h.few
  obtain ⟨p, c, rfl, hlc, hcm, -⟩ := h.is
  obtain ⟨q1, hq1⟩ := sliced_is p 1 (a :: l).length c 2
  have hat1 : ChAt w0 (.slice q1 l.length (c - 1)) l := by
    have := h.drop 1 (by simp)
    rw [hq1] at this
    simpa using this
  obtain ⟨N, hN⟩ : ∃ N, (a :: l).length = N := ⟨_, rfl⟩
  obtain ⟨M, hM⟩ : ∃ M, l.length = M := ⟨_, rfl⟩
  obtain ⟨c1, hc1⟩ : ∃ c1, c - 1 = c1 := ⟨_, rfl⟩
  have hsl1 : ∀ W, (Instr.slice 22 (.slice p N c) (some (.int .i64 1)) none none).run Tryd.prog W = .ok (.slice q1 M c1) W := fun W => by
    rw [run_from (k := 1) p c 1 rfl (by rw [← hN]; simp) W, ← hN, hq1, ← hM, ← hc1]; simp
  rw [hM, hc1] at hat1
  have hNM : M + 1 = N := by rw [← hN, ← hM]; rfl
  rw [hN] at hNL ⊢
  have HW1 := Lib.hid hW1
  have HB1 := Lib.hid hb
  have HK1 := Lib.hid hblk
  have HX1 := Lib.hid hXlt
  clear hb hblk hXlt hlc hcm hq1 hc1 h hw0
  obtain ⟨P0, hP0⟩ : ∃ P, a :: l = P := ⟨_, rfl⟩
  match l, hP0, hM, hS, hat1 with
  | [], hP0, hM, hS, hat1 =>
    have hM0 : M = 0 := by rw [← hM]; rfl
    have hMI : ¬ 0 < M := by omega
    obtain ⟨L, hL⟩ : ∃ L : List Ch, [] = L := ⟨_, rfl⟩
    obtain ⟨neg, hneg⟩ : ∃ n, false = n := ⟨_, rfl⟩
    have HF := Lib.hid (BrF.of (w := w0) (P0 := P0) (neg := neg) (L := L) (S := S) (M2 := M) (q2 := q1) (c2 := c1) (N := N) (by rw [← hP0]; exact hN) hNL (by omega) (by rw [← hP0, ← hL]; rfl) (by rw [← hP0, ← hneg]; rfl) (by rw [← hL]; exact hS) (by rw [← hL]; exact hat1))
    have HNE := Lib.hid hneg
    rw [hP0]
    have HM0 := Lib.hid hM0
    clear hP0 hM hS hat1 hN hNL hL hNM hneg hM0
    (try clear hP0 hM hS hat1)
    go_enter Tryd.func27, Tryd.ntmps27
    go_wp2_with (rw [hW1]; clear hW1)
    have hX2 := HX1.out
    have hK2 : W1.heap[w.heap.size]? = some (.cells #[.bool false, .bool neg, .slice none 0 0] 55) := by rw [← HNE.out]; exact HK1.out
    have hB2 := HB1.out
    clear hsl1 hMI
    generalize hM2 : M = M2 at *
    generalize hq2 : q1 = q2 at *
    generalize hc2 : c1 = c2 at *
    clear hM2 hq2 hc2
    obtain ⟨W2, hW2⟩ : ∃ W2, W1 = W2 := ⟨_, rfl⟩
    rw [hW2] at hX2 hK2 hB2 ⊢
    clear hW2
    have HX := Lib.hid (show w.heap.size < W2.heap.size from hX2)
    have HK := Lib.hid (show W2.heap[w.heap.size]? = some (.cells #[.bool false, .bool neg, .slice none 0 0] 55) from hK2)
    have HB := Lib.hid (show Below w.heap.size w W2 from hB2)
    clear hX2 hK2 hB2
    go_loopw [23] (fun v wr => RelB w.heap.size W2 neg L S v wr) (fun v _ => M2 - (intOf v).toNat)
    case atStart => exact ⟨0, rfl, Nat.zero_le _, HF.out.s, HX.out, HK.out, Below.refl _ _⟩
    case round =>
      obtain ⟨k, rfl, hk, hsh, -, -, hbr⟩ := hrel
      have HKr := Lib.hid ((hbr.block _ HX.out).trans HK.out)
      have HBW := Lib.hid (HB.out.trans (hbr.mono HB.out.size))
      have HBR := Lib.hid hbr
      have hkI : (0 : Int) ≤ (k : Int) := by omega
      rw [HF.out.m] at hk
      clear hbr
      by_cases hlt : k < M2
      · exfalso; have := HM0.out; omega
      · have hltI : ¬ (k : Int) < (M2 : Int) := by omega
        have HSH := Lib.hid (show none = S by rw [← hsh, List.drop_eq_nil_of_le (by rw [HF.out.m]; omega)]; rfl)
        have hkr := HKr.out
        have d0 : wr.cell? ⟨w.heap.size, 0, none⟩ = some (.bool false) := cell_of_row wr _ 0 _ _ _ hkr
        have d1 : wr.cell? ⟨w.heap.size, 1, none⟩ = some (.bool neg) := cell_of_row wr _ 1 _ _ _ hkr
        have d2 : wr.cell? ⟨w.heap.size, 2, none⟩ = some (.slice none 0 0) := cell_of_row wr _ 2 _ _ _ hkr
        have f0 : wr.frozen? ⟨w.heap.size, 0, none⟩ = false := Lib.frozen_of_heap hkr 0
        have f1 : wr.frozen? ⟨w.heap.size, 1, none⟩ = false := Lib.frozen_of_heap hkr 1
        have f2 : wr.frozen? ⟨w.heap.size, 2, none⟩ = false := Lib.frozen_of_heap hkr 2
        clear hsh hk hkr hlt
        go_wp2_with fail
        (try simp only [Exit.inBlock, Exit.then])
        refine bodyPost_ret (ret_piece rfl (bset2 (bset1 (bset0 HKr.out))) rfl rfl) rfl ?_
        refine ⟨?_, below_set (below_set (below_set HBW.out))⟩
        rw [HF.out.be, ← HSH.out]
        exact rfl
  | d :: r, hP0, hM, hS, hat1 =>
    have hM0 : 0 < M := by rw [← hM, List.length_cons]; omega
    obtain ⟨b, o, hq, c0, c1'⟩ := (hat1.below HW0.out).get (k := 0) (x := d) rfl
    subst hq
    rw [Nat.zero_mul, Nat.add_zero] at c0 c1'
    obtain ⟨d1, d2⟩ := d
    simp only at c0 c1'
    have e0 := HB1.out.cell (World.block_lt_of_cell? w _ c0)
    rw [c0] at e0
    have e1 := HB1.out.cell (World.block_lt_of_cell? w _ c1')
    rw [c1'] at e1
    have HI := Lib.hid (fun W => is_any (d1, d2) 33 W)
    obtain ⟨D, hD⟩ : ∃ D, isM (d1, d2) 33 = D := ⟨_, rfl⟩
    simp only [hD] at HI
    cases D
    · obtain ⟨L, hL⟩ : ∃ L : List Ch, (d1, d2) :: r = L := ⟨_, rfl⟩
      obtain ⟨neg, hneg⟩ : ∃ n, false = n := ⟨_, rfl⟩
      have HF := Lib.hid (BrF.of (w := w0) (P0 := P0) (neg := neg) (L := L) (S := S) (M2 := M) (q2 := some ⟨b, o, none⟩) (c2 := c1) (N := N) (by rw [← hP0]; exact hN) hNL (by omega) (by rw [← hP0, ← hL]; simp [withinM, negM, hD]) (by rw [← hP0, ← hneg]; exact hD) (by rw [← hL, ← hS]; simp [withinM, negM, hD]) (by rw [← hL]; exact hat1))
      have HNE := Lib.hid hneg
      rw [hP0]
      clear hP0 hM hS hat1 hN hNL hL hNM hneg hD c0 c1'
      (try clear hP0 hM hS hat1)
      go_enter Tryd.func27, Tryd.ntmps27
      go_wp2_with (first
        | (rw [hW1]; clear hW1)
        | (go_at_call 19; (with_reducible refine (HI.out _).mono ?_); rintro e w2 ⟨rfl, hb2⟩; have HB2 := Lib.hid hb2; clear hb2))
      have hX2 := Nat.lt_of_lt_of_le HX1.out HB2.out.size
      have hK2 : w2.heap[w.heap.size]? = some (.cells #[.bool false, .bool neg, .slice none 0 0] 55) := by rw [← HNE.out]; exact (HB2.out.block _ HX1.out).trans HK1.out
      have hB2 := HB1.out.trans (HB2.out.mono HB1.out.size)
      clear hsl1 e0 e1 hM0
      generalize hM2 : M = M2 at *
      generalize hq2 : some (⟨b, o, none⟩ : Addr) = q2 at *
      generalize hc2 : c1 = c2 at *
      clear hM2 hq2 hc2
      obtain ⟨W2, hW2⟩ : ∃ W2, w2 = W2 := ⟨_, rfl⟩
      rw [hW2] at hX2 hK2 hB2 ⊢
      clear hW2
      have HX := Lib.hid (show w.heap.size < W2.heap.size from hX2)
      have HK := Lib.hid (show W2.heap[w.heap.size]? = some (.cells #[.bool false, .bool neg, .slice none 0 0] 55) from hK2)
      have HB := Lib.hid (show Below w.heap.size w W2 from hB2)
      clear hX2 hK2 hB2
      go_loopw [23] (fun v wr => RelB w.heap.size W2 neg L S v wr) (fun v _ => M2 - (intOf v).toNat)
      case atStart => exact ⟨0, rfl, Nat.zero_le _, HF.out.s, HX.out, HK.out, Below.refl _ _⟩
      case round =>
        obtain ⟨k, rfl, hk, hsh, -, -, hbr⟩ := hrel
        have HKr := Lib.hid ((hbr.block _ HX.out).trans HK.out)
        have HBW := Lib.hid (HB.out.trans (hbr.mono HB.out.size))
        have HBR := Lib.hid hbr
        have hkI : (0 : Int) ≤ (k : Int) := by omega
        rw [HF.out.m] at hk
        clear hbr
        by_cases hlt : k < M2
        · have hltI : (k : Int) < (M2 : Int) := by omega
          have hkM := HF.out.mm
          have hk1 : (k : Int) + 1 ≤ 9223372036854775807 := by unfold maxLen at hkM; omega
          clear hkM
          obtain ⟨x, hx⟩ : ∃ x, L[k]? = some x := ⟨_, List.getElem?_eq_getElem (by rw [HF.out.m]; exact hlt)⟩
          obtain ⟨b, o, hq, c0, c1'⟩ := (HF.out.at_.below (HW0.out.trans (HBW.out.mono HW0.out.size))).get hx
          rw [drop_at hx, shutM] at hsh
          obtain ⟨x1, x2⟩ := x
          simp only at c0 c1'
          have HI := Lib.hid (fun W => is_any (x1, x2) 93 W)
          have hbA := (Below.refl wr.heap.size wr).alloc (Nat.le_refl _) (.cells #[.int .i32 x1, .bool x2] 35)
          have HBA := Lib.hid hbA
          obtain ⟨D, hD⟩ : ∃ D, isM (x1, x2) 93 = D := ⟨_, rfl⟩
          simp only [hD] at HI hsh
          by_cases hk0 : k = 0
          · subst hk0
            have HSH := Lib.hid (show shutM (0 + 1) (L.drop (0 + 1)) = S by rw [← hsh]; simp)
            have hltI : (0 : Int) < (M2 : Int) := by omega
            rw [Nat.zero_mul, Nat.add_zero] at c0 c1'
            have HLT := Lib.hid hlt
            clear hsh hx hbA hD hk hk1 hkI hlt
            subst hq
            go_wp2_with fail
            go_roundw
            case rel => exact ⟨0 + 1, by simp, by rw [HF.out.m]; exact HLT.out, HSH.out, HX.out, HK.out, HBR.out.trans (HBA.out.mono HBR.out.size)⟩
            case measure => have := HLT.out; simp [intOf]; omega
          · have hk0N : 0 < k := by omega
            cases D
            · have HSH := Lib.hid (show shutM (k + 1) (L.drop (k + 1)) = S by rw [← hsh]; simp)
              have HLT := Lib.hid hlt
              clear hsh hx hbA hD hk hk0 hlt hkI
              subst hq
              go_wp2_with (first
                | (go_at_call 19; (with_reducible refine (HI.out _).mono ?_); rintro e w3 ⟨rfl, hb3⟩; have HB3 := Lib.hid (HBA.out.trans (hb3.mono HBA.out.size)); clear hb3))
              go_roundw
              case rel => exact ⟨k + 1, by simp, by rw [HF.out.m]; exact HLT.out, HSH.out, HX.out, HK.out, HBR.out.trans (HB3.out.mono HBR.out.size)⟩
              case measure => have := HLT.out; simp [intOf]; omega
            · have HSH := Lib.hid (show some k = S by rw [← hsh]; simp; omega)
              obtain ⟨q3, hq3⟩ := sliced_is q2 0 k c2 2
              have hkc : k ≤ c2 := by have := HF.out.c; omega
              have hsl3 : ∀ W, (Instr.slice 22 (.slice q2 M2 c2) none (some (.int .i64 (k : Int))) none).run Tryd.prog W = .ok (.slice q3 k c2) W := fun W => by
                rw [run_upto q2 M2 _ rfl hkc W, hq3]; rfl
              have HAT3 := Lib.hid (show ChAt w0 (.slice q3 k c2) (L.take k) by
                have h1 := HF.out.at_
                rw [← HF.out.m] at h1
                have := h1.take k (by rw [HF.out.m]; omega)
                rw [hq3] at this
                exact this)
              have e1 : (N : Int) - (M2 : Int) + (k : Int) + 1 = ((N - M2 + k + 1 : Nat) : Int) := by have := HF.out.nm; omega
              have HE1 := Lib.hid e1
              have e2 : (0 : Int) ≤ (N : Int) - (M2 : Int) := by have := HF.out.nm; omega
              have e3 : (N : Int) - (M2 : Int) + (k : Int) + 1 ≤ 9223372036854775807 := by have h7 := HF.out.nl; have := HF.out.nm; unfold maxLen at h7; omega
              clear hsh hx hbA hD hk hk0 hkc hq3 e1 hlt
              rw [hq] at hsl3 ⊢
              clear hq
              go_wp2_with (first
                | (go_at_call 19; (with_reducible refine (HI.out _).mono ?_); rintro e w3 ⟨rfl, hb3⟩; have HB3 := Lib.hid (HBA.out.trans (hb3.mono HBA.out.size)); have hkr := (HB3.out.block _ (Nat.lt_of_lt_of_le HX.out HBR.out.size)).trans HKr.out; have d0 : w3.cell? ⟨w.heap.size, 0, none⟩ = some (.bool false) := cell_of_row w3 _ 0 _ _ _ hkr; have d1 : w3.cell? ⟨w.heap.size, 1, none⟩ = some (.bool neg) := cell_of_row w3 _ 1 _ _ _ hkr; have d2 : w3.cell? ⟨w.heap.size, 2, none⟩ = some (.slice none 0 0) := cell_of_row w3 _ 2 _ _ _ hkr; have f0 : w3.frozen? ⟨w.heap.size, 0, none⟩ = false := Lib.frozen_of_heap hkr 0; have f1 : w3.frozen? ⟨w.heap.size, 1, none⟩ = false := Lib.frozen_of_heap hkr 1; have f2 : w3.frozen? ⟨w.heap.size, 2, none⟩ = false := Lib.frozen_of_heap hkr 2; have HKW := Lib.hid hkr; clear hb3 hkr))
              (try simp only [Exit.inBlock, Exit.then])
              refine bodyPost_ret (ret_piece rfl (bset2 (bset1 (bset0 (bset2 HKW.out)))) rfl rfl) rfl ?_
              refine ⟨?_, below_set (below_set (below_set (below_set (HBW.out.trans (HB3.out.mono HBW.out.size)))))⟩
              rw [HF.out.be, ← HSH.out]
              refine ⟨.slice q3 k c2, ?_, HAT3.out⟩
              show Ending.returned (.tuple #[.agg #[.bool false, .bool neg, .slice q3 k c2], .int .i64 ((N : Int) - (M2 : Int) + (k : Int) + 1)]) = _
              rw [HE1.out]
        · have hltI : ¬ (k : Int) < (M2 : Int) := by omega
          have HSH := Lib.hid (show none = S by rw [← hsh, List.drop_eq_nil_of_le (by rw [HF.out.m]; omega)]; rfl)
          have hkr := HKr.out
          have d0 : wr.cell? ⟨w.heap.size, 0, none⟩ = some (.bool false) := cell_of_row wr _ 0 _ _ _ hkr
          have d1 : wr.cell? ⟨w.heap.size, 1, none⟩ = some (.bool neg) := cell_of_row wr _ 1 _ _ _ hkr
          have d2 : wr.cell? ⟨w.heap.size, 2, none⟩ = some (.slice none 0 0) := cell_of_row wr _ 2 _ _ _ hkr
          have f0 : wr.frozen? ⟨w.heap.size, 0, none⟩ = false := Lib.frozen_of_heap hkr 0
          have f1 : wr.frozen? ⟨w.heap.size, 1, none⟩ = false := Lib.frozen_of_heap hkr 1
          have f2 : wr.frozen? ⟨w.heap.size, 2, none⟩ = false := Lib.frozen_of_heap hkr 2
          clear hsh hk hkr hlt
          go_wp2_with fail
          (try simp only [Exit.inBlock, Exit.then])
          refine bodyPost_ret (ret_piece rfl (bset2 (bset1 (bset0 HKr.out))) rfl rfl) rfl ?_
          refine ⟨?_, below_set (below_set (below_set HBW.out))⟩
          rw [HF.out.be, ← HSH.out]
          exact rfl
    · obtain ⟨L, hL⟩ : ∃ L : List Ch, r = L := ⟨_, rfl⟩
      obtain ⟨neg, hneg⟩ : ∃ n, true = n := ⟨_, rfl⟩
      obtain ⟨q2, hq2⟩ := sliced_is (some ⟨b, o, none⟩) 1 M c1 2
      obtain ⟨M2, hM2⟩ : ∃ M2, M - 1 = M2 := ⟨_, rfl⟩
      obtain ⟨c2, hc2⟩ : ∃ c2, c1 - 1 = c2 := ⟨_, rfl⟩
      rw [hM2, hc2] at hq2
      have hsl2 : ∀ W, (Instr.slice 22 (.slice (some ⟨b, o, none⟩) M c1) (some (.int .i64 1)) none none).run Tryd.prog W = .ok (.slice q2 M2 c2) W := fun W => by
        rw [run_from (k := 1) _ c1 1 rfl (by omega) W, hq2]
      have HF := Lib.hid (BrF.of (w := w0) (P0 := P0) (neg := neg) (L := L) (S := S) (M2 := M2) (q2 := q2) (c2 := c2) (N := N) (by rw [← hP0]; exact hN) hNL (by omega) (by rw [← hP0, ← hL]; simp [withinM, negM, hD]) (by rw [← hP0, ← hneg]; exact hD) (by rw [← hL, ← hS]; simp [withinM, negM, hD]) (by
        rw [← hL]
        rw [← hM] at hat1 hq2
        have := hat1.drop 1 (by simp)
        rw [hq2] at this
        exact this))
      have HNE := Lib.hid hneg
      rw [hP0]
      clear hP0 hM hS hat1 hN hNL hL hNM hneg hD c0 c1' hq2 hM2 hc2
      (try clear hP0 hM hS hat1)
      go_enter Tryd.func27, Tryd.ntmps27
      go_wp2_with (first
        | (rw [hW1]; clear hW1)
        | (go_at_call 19; (with_reducible refine (HI.out _).mono ?_); rintro e w2 ⟨rfl, hb2⟩; have HB2 := Lib.hid hb2; have hk := (hb2.block _ HX1.out).trans HK1.out; have d1' : w2.cell? ⟨w.heap.size, 1, none⟩ = some (.bool false) := cell_of_row w2 _ 1 _ _ _ hk; have f1 : w2.frozen? ⟨w.heap.size, 1, none⟩ = false := Lib.frozen_of_heap hk 1; have HK2 := Lib.hid hk; clear hb2 hk))
      have hX2 : w.heap.size < (w2.setCell ⟨w.heap.size, 1, none⟩ (.bool true)).heap.size := by simpa [World.setCell] using Nat.lt_of_lt_of_le HX1.out HB2.out.size
      have hK2 : (w2.setCell ⟨w.heap.size, 1, none⟩ (.bool true)).heap[w.heap.size]? = some (.cells #[.bool false, .bool neg, .slice none 0 0] 55) := by rw [← HNE.out]; exact bset1 (u := .bool true) HK2.out
      have hB2 := below_set (o := 1) (u := .bool true) (HB1.out.trans (HB2.out.mono HB1.out.size))
      clear hsl1 hsl2 e0 e1 hM0 d1' f1
      obtain ⟨W2, hW2⟩ : ∃ W2, w2.setCell ⟨w.heap.size, 1, none⟩ (.bool true) = W2 := ⟨_, rfl⟩
      rw [hW2] at hX2 hK2 hB2 ⊢
      clear hW2
      have HX := Lib.hid (show w.heap.size < W2.heap.size from hX2)
      have HK := Lib.hid (show W2.heap[w.heap.size]? = some (.cells #[.bool false, .bool neg, .slice none 0 0] 55) from hK2)
      have HB := Lib.hid (show Below w.heap.size w W2 from hB2)
      clear hX2 hK2 hB2
      go_loopw [23] (fun v wr => RelB w.heap.size W2 neg L S v wr) (fun v _ => M2 - (intOf v).toNat)
      case atStart => exact ⟨0, rfl, Nat.zero_le _, HF.out.s, HX.out, HK.out, Below.refl _ _⟩
      case round =>
        obtain ⟨k, rfl, hk, hsh, -, -, hbr⟩ := hrel
        have HKr := Lib.hid ((hbr.block _ HX.out).trans HK.out)
        have HBW := Lib.hid (HB.out.trans (hbr.mono HB.out.size))
        have HBR := Lib.hid hbr
        have hkI : (0 : Int) ≤ (k : Int) := by omega
        rw [HF.out.m] at hk
        clear hbr
        by_cases hlt : k < M2
        · have hltI : (k : Int) < (M2 : Int) := by omega
          have hkM := HF.out.mm
          have hk1 : (k : Int) + 1 ≤ 9223372036854775807 := by unfold maxLen at hkM; omega
          clear hkM
          obtain ⟨x, hx⟩ : ∃ x, L[k]? = some x := ⟨_, List.getElem?_eq_getElem (by rw [HF.out.m]; exact hlt)⟩
          obtain ⟨b, o, hq, c0, c1'⟩ := (HF.out.at_.below (HW0.out.trans (HBW.out.mono HW0.out.size))).get hx
          rw [drop_at hx, shutM] at hsh
          obtain ⟨x1, x2⟩ := x
          simp only at c0 c1'
          have HI := Lib.hid (fun W => is_any (x1, x2) 93 W)
          have hbA := (Below.refl wr.heap.size wr).alloc (Nat.le_refl _) (.cells #[.int .i32 x1, .bool x2] 35)
          have HBA := Lib.hid hbA
          obtain ⟨D, hD⟩ : ∃ D, isM (x1, x2) 93 = D := ⟨_, rfl⟩
          simp only [hD] at HI hsh
          by_cases hk0 : k = 0
          · subst hk0
            have HSH := Lib.hid (show shutM (0 + 1) (L.drop (0 + 1)) = S by rw [← hsh]; simp)
            have hltI : (0 : Int) < (M2 : Int) := by omega
            rw [Nat.zero_mul, Nat.add_zero] at c0 c1'
            have HLT := Lib.hid hlt
            clear hsh hx hbA hD hk hk1 hkI hlt
            subst hq
            go_wp2_with fail
            go_roundw
            case rel => exact ⟨0 + 1, by simp, by rw [HF.out.m]; exact HLT.out, HSH.out, HX.out, HK.out, HBR.out.trans (HBA.out.mono HBR.out.size)⟩
            case measure => have := HLT.out; simp [intOf]; omega
          · have hk0N : 0 < k := by omega
            cases D
            · have HSH := Lib.hid (show shutM (k + 1) (L.drop (k + 1)) = S by rw [← hsh]; simp)
              have HLT := Lib.hid hlt
              clear hsh hx hbA hD hk hk0 hlt hkI
              subst hq
              go_wp2_with (first
                | (go_at_call 19; (with_reducible refine (HI.out _).mono ?_); rintro e w3 ⟨rfl, hb3⟩; have HB3 := Lib.hid (HBA.out.trans (hb3.mono HBA.out.size)); clear hb3))
              go_roundw
              case rel => exact ⟨k + 1, by simp, by rw [HF.out.m]; exact HLT.out, HSH.out, HX.out, HK.out, HBR.out.trans (HB3.out.mono HBR.out.size)⟩
              case measure => have := HLT.out; simp [intOf]; omega
            · have HSH := Lib.hid (show some k = S by rw [← hsh]; simp; omega)
              obtain ⟨q3, hq3⟩ := sliced_is q2 0 k c2 2
              have hkc : k ≤ c2 := by have := HF.out.c; omega
              have hsl3 : ∀ W, (Instr.slice 22 (.slice q2 M2 c2) none (some (.int .i64 (k : Int))) none).run Tryd.prog W = .ok (.slice q3 k c2) W := fun W => by
                rw [run_upto q2 M2 _ rfl hkc W, hq3]; rfl
              have HAT3 := Lib.hid (show ChAt w0 (.slice q3 k c2) (L.take k) by
                have h1 := HF.out.at_
                rw [← HF.out.m] at h1
                have := h1.take k (by rw [HF.out.m]; omega)
                rw [hq3] at this
                exact this)
              have e1 : (N : Int) - (M2 : Int) + (k : Int) + 1 = ((N - M2 + k + 1 : Nat) : Int) := by have := HF.out.nm; omega
              have HE1 := Lib.hid e1
              have e2 : (0 : Int) ≤ (N : Int) - (M2 : Int) := by have := HF.out.nm; omega
              have e3 : (N : Int) - (M2 : Int) + (k : Int) + 1 ≤ 9223372036854775807 := by have h7 := HF.out.nl; have := HF.out.nm; unfold maxLen at h7; omega
              clear hsh hx hbA hD hk hk0 hkc hq3 e1 hlt
              rw [hq] at hsl3 ⊢
              clear hq
              go_wp2_with (first
                | (go_at_call 19; (with_reducible refine (HI.out _).mono ?_); rintro e w3 ⟨rfl, hb3⟩; have HB3 := Lib.hid (HBA.out.trans (hb3.mono HBA.out.size)); have hkr := (HB3.out.block _ (Nat.lt_of_lt_of_le HX.out HBR.out.size)).trans HKr.out; have d0 : w3.cell? ⟨w.heap.size, 0, none⟩ = some (.bool false) := cell_of_row w3 _ 0 _ _ _ hkr; have d1 : w3.cell? ⟨w.heap.size, 1, none⟩ = some (.bool neg) := cell_of_row w3 _ 1 _ _ _ hkr; have d2 : w3.cell? ⟨w.heap.size, 2, none⟩ = some (.slice none 0 0) := cell_of_row w3 _ 2 _ _ _ hkr; have f0 : w3.frozen? ⟨w.heap.size, 0, none⟩ = false := Lib.frozen_of_heap hkr 0; have f1 : w3.frozen? ⟨w.heap.size, 1, none⟩ = false := Lib.frozen_of_heap hkr 1; have f2 : w3.frozen? ⟨w.heap.size, 2, none⟩ = false := Lib.frozen_of_heap hkr 2; have HKW := Lib.hid hkr; clear hb3 hkr))
              (try simp only [Exit.inBlock, Exit.then])
              refine bodyPost_ret (ret_piece rfl (bset2 (bset1 (bset0 (bset2 HKW.out)))) rfl rfl) rfl ?_
              refine ⟨?_, below_set (below_set (below_set (below_set (HBW.out.trans (HB3.out.mono HBW.out.size)))))⟩
              rw [HF.out.be, ← HSH.out]
              refine ⟨.slice q3 k c2, ?_, HAT3.out⟩
              show Ending.returned (.tuple #[.agg #[.bool false, .bool neg, .slice q3 k c2], .int .i64 ((N : Int) - (M2 : Int) + (k : Int) + 1)]) = _
              rw [HE1.out]
        · have hltI : ¬ (k : Int) < (M2 : Int) := by omega
          have HSH := Lib.hid (show none = S by rw [← hsh, List.drop_eq_nil_of_le (by rw [HF.out.m]; omega)]; rfl)
          have hkr := HKr.out
          have d0 : wr.cell? ⟨w.heap.size, 0, none⟩ = some (.bool false) := cell_of_row wr _ 0 _ _ _ hkr
          have d1 : wr.cell? ⟨w.heap.size, 1, none⟩ = some (.bool neg) := cell_of_row wr _ 1 _ _ _ hkr
          have d2 : wr.cell? ⟨w.heap.size, 2, none⟩ = some (.slice none 0 0) := cell_of_row wr _ 2 _ _ _ hkr
          have f0 : wr.frozen? ⟨w.heap.size, 0, none⟩ = false := Lib.frozen_of_heap hkr 0
          have f1 : wr.frozen? ⟨w.heap.size, 1, none⟩ = false := Lib.frozen_of_heap hkr 1
          have f2 : wr.frozen? ⟨w.heap.size, 2, none⟩ = false := Lib.frozen_of_heap hkr 2
          clear hsh hk hkr hlt
          go_wp2_with fail
          (try simp only [Exit.inBlock, Exit.then])
          refine bodyPost_ret (ret_piece rfl (bset2 (bset1 (bset0 HKr.out))) rfl rfl) rfl ?_
          refine ⟨?_, below_set (below_set (below_set HBW.out))⟩
          rw [HF.out.be, ← HSH.out]
          exact rfl
end Go.Proofs.YtpgmlbdfmcbgoaaDoor
