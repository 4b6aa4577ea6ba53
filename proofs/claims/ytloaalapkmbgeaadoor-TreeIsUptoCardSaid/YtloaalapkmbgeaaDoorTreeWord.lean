/-
  Proved: contracts of tree's Word, Plain, opening, bare, gives. Conditions: texts of at most 2^20 bytes.
-/
import Derived.Test.YtloaalapkmbgeaaDoorTreeRow
namespace Go.Proofs.YtloaalapkmbgeaaDoor
open Go Go.RowKit GlyphMath LexMath TreeMath

theorem word_cell (w : World) (v : Value) (t : TypeId) : (w.alloc (.cells #[v] t)).cell? ⟨w.heap.size, 0, none⟩ = some v := cell_plain (heap_alloc_new w _) 0
theorem cell_below {w w1 : World} {a : Addr} {v : Value} (h : w.cell? a = some v) (hb : Below w.heap.size w w1) : w1.cell? a = some v := (hb.cell (World.block_lt_of_cell? w _ h)).trans h

set_option maxRecDepth 100000 in
theorem word_any (ps : List Pt) (v : Value) (w : World) (hv : PsAt w v ps) (hs : Small ps) :
    Calls Tryd.prog 13 #[wordV v] w fun e w' => e = .returned (.bool (wordT ps)) ∧ Below w.heap.size w w' := by
  obtain ⟨p, c, rfl, -, -⟩ := hv.is
  have HR := Lib.hid (fun W (hb : Below w.heap.size w W) => row_any 21 0 rfl ps _ W (hv.stays hb) hs)
  have HB := Lib.hid (fun o => below_one w o)
  have HW := Lib.hid (show wordT ps = (!ps.isEmpty && rowT 21 ps) from rfl)
  have hE := empty_len ps
  have hpos : decide ((0 : Int) < (ps.length : Int)) = !ps.isEmpty := by
    cases ps with
    | nil => rfl
    | cons a r => exact decide_eq_true (by rw [List.length_cons]; omega)
  obtain ⟨R, hR⟩ : ∃ R, wordT ps = R := ⟨_, rfl⟩
  rw [hR] at HW ⊢
  obtain ⟨B, hB⟩ : ∃ B, rowT 21 ps = B := ⟨_, rfl⟩
  rw [hB] at HW HR
  obtain ⟨E, hEE⟩ : ∃ E, ps.isEmpty = E := ⟨_, rfl⟩
  rw [hEE] at hpos HW
  obtain ⟨L, hL⟩ : ∃ L, ps.length = L := ⟨_, rfl⟩
  rw [hL] at hpos HR ⊢
  unfold wordV
  have HR2 := Lib.hid (show ∀ o, Calls Tryd.prog 19 #[.slice p L c, .int .i64 0] (w.alloc o) fun e w' => e = .returned (.bool B) ∧ Below (w.alloc o).heap.size (w.alloc o) w' from fun o => HR.out _ (HB.out o))
  clear hR hB hEE hE hL hv hs HR
  cases E with
  | true =>
    have hn : ¬ (0 : Int) < (L : Int) := of_decide_eq_false hpos
    clear hpos
    go_enter Tryd.func13, Tryd.ntmps13
    go_wp2_with fail
    go_ret
    exact ⟨ret_bool HW.out.symm, HB.out _⟩
  | false =>
    have hn : (0 : Int) < (L : Int) := of_decide_eq_true hpos
    clear hpos
    go_enter Tryd.func13, Tryd.ntmps13
    go_wp2_with (go_at_call 19; refine (HR2.out _).mono ?_; rintro e w1 ⟨rfl, hb⟩; have HB1 := Lib.hid ((HB.out _).trans (hb.mono (HB.out _).size)); clear hb)
    go_ret
    exact ⟨ret_bool HW.out.symm, HB1.out⟩

/-- What a word's first part gives. -/
theorem first_cells {w : World} {v : Value} {q : Pt} {r : List Pt} (hv : PsAt w v (q :: r)) : ∃ b o c u, v = .slice (some ⟨b, o, none⟩) (r.length + 1) c ∧ (∃ up uc, u = .slice up q.word.length uc) ∧
    w.cell? ⟨b, o, none⟩ = some (.int .i64 q.kind) ∧ w.cell? ⟨b, o + 1, none⟩ = some (.string (T q.text)) ∧ w.cell? ⟨b, o + 2, none⟩ = some (.string (T q.op)) ∧ w.cell? ⟨b, o + 3, none⟩ = some u ∧ w.cell? ⟨b, o + 4, none⟩ = some (.bool q.q) := by
  obtain ⟨p, c, rfl, -, hat⟩ := hv.is
  obtain ⟨u, ⟨b, o, rfl, hc⟩, hu⟩ := hat 0 q rfl
  obtain ⟨up, uc, hup, -⟩ := hu.is
  refine ⟨b, o, c, u, rfl, ⟨up, uc, hup⟩, ?_, ?_, ?_, ?_, ?_⟩
  · simpa using hc 0 _ rfl
  · have := hc 1 _ rfl; rwa [show o + 0 * 5 + 1 = o + 1 by omega] at this
  · have := hc 2 _ rfl; rwa [show o + 0 * 5 + 2 = o + 2 by omega] at this
  · have := hc 3 _ rfl; rwa [show o + 0 * 5 + 3 = o + 3 by omega] at this
  · have := hc 4 _ rfl; rwa [show o + 0 * 5 + 4 = o + 4 by omega] at this

set_option maxRecDepth 100000 in
theorem opening_any (ps : List Pt) (v : Value) (w : World) (hv : PsAt w v ps) :
    Calls Tryd.prog 77 #[wordV v] w fun e w' => e = .returned (.string (T (openT ps))) ∧ Below w.heap.size w w' := by
  have HB := Lib.hid (fun o => below_one w o)
  unfold wordV
  cases ps with
  | nil =>
    obtain ⟨p, c, rfl, -, -⟩ := hv.is
    clear hv
    go_enter Tryd.func77, Tryd.ntmps77
    go_wp2_with fail
    go_ret
    exact ⟨rfl, HB.out _⟩
  | cons q r =>
    obtain ⟨b, o, c, u, rfl, ⟨up, uc, rfl⟩, c0, c1, c2, c3, c4⟩ := first_cells hv
    have HI := Lib.hid (fun W => isBare_any q (.slice up q.word.length uc) W)
    obtain ⟨s, hs⟩ : ∃ s, T q.text = s := ⟨_, rfl⟩
    obtain ⟨s2, hs2⟩ : ∃ s, T q.op = s := ⟨_, rfl⟩
    obtain ⟨kd, hkd⟩ : ∃ s, q.kind = s := ⟨_, rfl⟩
    obtain ⟨qq, hqq⟩ : ∃ s, q.q = s := ⟨_, rfl⟩
    obtain ⟨ul, hul⟩ : ∃ s, q.word.length = s := ⟨_, rfl⟩
    have HI := Lib.hid (show ∀ W, Calls Tryd.prog 34 #[.agg #[.int .i64 kd, .string s, .string s2, .slice up ul uc, .bool qq]] W fun e w' => e = .returned (.bool (bareT q)) ∧ Below W.heap.size W w' from fun W => by rw [← hs, ← hs2, ← hkd, ← hqq, ← hul]; exact HI.out W)
    rw [hs] at c1
    rw [hs2] at c2
    rw [hkd] at c0
    rw [hqq] at c4
    rw [hul] at c3
    obtain ⟨B, hBB⟩ : ∃ B, bareT q = B := ⟨_, rfl⟩
    rw [hBB] at HI
    have HT := Lib.hid (show T (openT (q :: r)) = if B = true then s else ⟨#[]⟩ from by
      rw [← hBB, ← hs]
      show T (if bareT q = true then q.text else []) = _
      cases bareT q <;> rfl)
    rw [HT.out]
    have hL : ((r.length + 1 : Nat) : Int) ≠ 0 := by omega
    obtain ⟨L, hLL⟩ : ∃ L, r.length + 1 = L := ⟨_, rfl⟩
    rw [hLL] at hL ⊢
    have hL1 := int_ne hL
    have hL2 : (0 : Int) < (L : Int) := by omega
    have d0 := fun x => cell_below c0 (HB.out x)
    have d1 := fun x => cell_below c1 (HB.out x)
    have d2 := fun x => cell_below c2 (HB.out x)
    have d3 := fun x => cell_below c3 (HB.out x)
    have d4 := fun x => cell_below c4 (HB.out x)
    clear hv hs hs2 hkd hqq hul hBB hL hLL
    cases B with
    | true =>
      go_enter Tryd.func77, Tryd.ntmps77
      go_wp2_with (go_at_call 34; refine (HI.out _).mono ?_; rintro e w1 ⟨rfl, hb⟩; have hx := (hb.cell (World.block_lt_of_cell? _ _ (word_cell w (.slice (some ⟨b, o, none⟩) L c) 33))).trans (word_cell w (.slice (some ⟨b, o, none⟩) L c) 33); have HB1 := Lib.hid ((HB.out _).trans (hb.mono (HB.out _).size)); have hx1 := cell_below c1 HB1.out; clear hb)
      go_ret
      exact ⟨rfl, HB1.out⟩
    | false =>
      go_enter Tryd.func77, Tryd.ntmps77
      go_wp2_with (go_at_call 34; refine (HI.out _).mono ?_; rintro e w1 ⟨rfl, hb⟩; have HB1 := Lib.hid ((HB.out _).trans (hb.mono (HB.out _).size)); clear hb)
      go_ret
      exact ⟨rfl, HB1.out⟩
end Go.Proofs.YtloaalapkmbgeaaDoor
