/-
  Proved: the contract of a row's lit: a Lit more, or more letters of the last one. Conditions: the row lies in memory, and its texts are short.
-/
import Derived.Test.YtpifbpfmjmcchaaDoorLexGrow
namespace Go.Proofs.YtpifbpfmjmcchaaDoor
open Go Go.RowKit GlyphMath LexMath

theorem bytes_append (a b : List UInt8) : (⟨a.toArray⟩ : ByteArray) ++ ⟨b.toArray⟩ = ⟨(a ++ b).toArray⟩ := by
  apply ByteArray.ext
  rw [ByteArray.data_append]
  simp
theorem bytes_size (a : List UInt8) : (⟨a.toArray⟩ : ByteArray).size = a.length := by simp [ByteArray.size]

/-- A row with at least one part. -/
theorem RowO.form {w : World} {B W : Nat} {v : Value} {vs : List Value} {F : Nat → Prop} {ps : List Pt} {p : Pt} (h : RowO w B W v vs F (ps ++ [p])) :
    ∃ A cap vs0 u, v = .slice (some ⟨A, 0, none⟩) (ps.length + 1) cap ∧ vs = vs0 ++ [u] ∧ ps.length = vs0.length ∧ B ≤ A ∧ A < w.heap.size ∧ A ≠ W ∧
      (∀ i, i < 5 → w.cell? ⟨A, ps.length * 5 + i, none⟩ = (pcells p u)[i]?) ∧ (∀ j, w.frozen? ⟨A, j, none⟩ = false) := by
  have hl := h.len
  rw [List.length_append, List.length_singleton] at hl
  rcases List.eq_nil_or_concat vs with rfl | ⟨vs0, u, rfl⟩
  · simp at hl
  rw [List.concat_eq_append] at h hl ⊢
  rw [List.length_append, List.length_singleton] at hl
  have ho := h.own
  rw [List.length_append, List.length_singleton] at ho
  obtain ⟨A, cap, rfl, hB, hA⟩ := World.ownsRow.form ho (by omega)
  refine ⟨A, cap, vs0, u, rfl, rfl, by omega, hB, hA, fun e => h.ne (by rw [e]; rfl), fun i hi => ?_, ?_⟩
  · rw [ho.cellAt _ (by omega), rowCells_get (ps ++ [p]) (vs0 ++ [u]) ps.length p u (by simp) (by rw [show ps.length = vs0.length by omega]; simp) (by simp; omega) i hi]
  · intro j
    rcases ho.2 with ⟨hv, _⟩ | ⟨g, cap', cur, hv, _, hg, _⟩
    · cases hv
    · cases hv
      exact frozen_plain hg j

theorem rowCells_set (ps : List Pt) (vs : List Value) (p : Pt) (u : Value) (t : List UInt8) (hl : ps.length = vs.length) :
    (rowCells (ps ++ [p]) (vs ++ [u])).set (ps.length * 5 + 1) (txt t) = rowCells (ps ++ [{ p with text := t }]) (vs ++ [u]) := by
  rw [rowCells_append _ _ _ _ hl, rowCells_append _ _ _ _ hl, List.set_append_right _ _ (by rw [rowCells_length _ _ hl]; omega), rowCells_length _ _ hl]
  congr 1
  rw [show ps.length * 5 + 1 - ps.length * 5 = 1 by omega]
  rfl

/-- The last text is another one. -/
theorem RowO.join {w : World} {B W A cap : Nat} {vs : List Value} {u : Value} {F : Nat → Prop} {ps : List Pt} {p : Pt} (h : RowO w B W (.slice (some ⟨A, 0, none⟩) (ps.length + 1) cap) (vs ++ [u]) F (ps ++ [p])) (t : List UInt8) :
    RowO (w.setCell ⟨A, ps.length * 5 + 1, none⟩ (txt t)) B W (.slice (some ⟨A, 0, none⟩) (ps.length + 1) cap) (vs ++ [u]) F (ps ++ [{ p with text := t }]) := by
  have hl := h.len
  simp only [List.length_append, List.length_singleton] at hl
  have ho := h.own
  rw [List.length_append, List.length_singleton] at ho
  have hne : A ≠ W := fun e => h.ne (by rw [e]; rfl)
  have hk : ∀ g, g ≠ A → (w.setCell ⟨A, ps.length * 5 + 1, none⟩ (txt t)).heap[g]? = w.heap[g]? := fun g hg => Below.heap_setCell _ _ _ _ hg
  have hsz : (w.setCell ⟨A, ps.length * 5 + 1, none⟩ (txt t)).heap.size = w.heap.size := by simp [World.setCell]
  have hs := (ho.stored (ps.length * 5 + 1) (txt t)).1
  rw [rowCells_set ps vs p u t (by omega)] at hs
  refine { head := (hk W (Ne.symm hne)).trans h.head, base := h.base, own := ?_, len := by simpa using h.len, sub := fun j q x hq hx => ?_, far := fun g hg => ?_, ne := h.ne }
  · simpa using hs
  · have hsub : ∀ q', (ps ++ [p])[j]? = some q' → q'.word = q.word → WordV (w.setCell ⟨A, ps.length * 5 + 1, none⟩ (txt t)) F x q.word := fun q' hq' e => by
      rw [← e]
      exact (h.sub j q' x hq' hx).same fun g hg => hk g fun e => (h.far g hg).2.2.2 (by rw [e]; rfl)
    rcases Nat.lt_or_ge j ps.length with hj | hj
    · rw [List.getElem?_append_left hj] at hq
      exact hsub q (by rw [List.getElem?_append_left hj]; exact hq) rfl
    · rw [List.getElem?_append_right hj] at hq
      obtain ⟨hj0, hq0⟩ := List.getElem?_eq_some_iff.1 hq
      simp only [List.length_singleton] at hj0
      obtain rfl : j = ps.length := by omega
      refine hsub p (by simp) ?_
      rw [← hq0]; simp
  · rw [hsz]; exact h.far g hg

set_option maxHeartbeats 1000000 in
theorem lit_join {w : World} {B W : Nat} {ps : List Pt} {p : Pt} (h : RowAt w B W (ps ++ [p])) (t : List UInt8) (hk : p.kind = 1) (hs : p.text.length + t.length ≤ 100000) (hn : ps.length ≤ 10000) :
    Calls Tryd.prog 59 #[.pointer (some ⟨W, 0, none⟩), txt t, .bool p.q] w fun e w' => e = .returned (.tuple #[]) ∧ RowAt w' B W (ps ++ [{ p with text := p.text ++ t }]) ∧ Kept (fun k => B ≤ k) w w' := by
  obtain ⟨pk, T, O, D, q⟩ := p
  simp only at hk hs ⊢
  subst hk
  obtain ⟨v, vs, F, h⟩ := h
  obtain ⟨A, cap, vs0, u, rfl, rfl, hl, hB, hA, hAW, hc, hf⟩ := h.form
  have c0 := h.cell0
  have k0 := hc 0 (by omega)
  have k1 := hc 1 (by omega)
  have k4 := hc 4 (by omega)
  simp only [pcells, List.getElem?_cons_zero, List.getElem?_cons_succ, Nat.add_zero] at k0 k1 k4
  have f1 := hf (ps.length * 5 + 1)
  have HJ := Lib.hid (h.join (T ++ t))
  obtain ⟨n, hn'⟩ : ∃ n, ps.length = n := ⟨_, rfl⟩
  rw [hn'] at c0 k0 k1 k4 f1
  have HN := Lib.hid hn'
  obtain ⟨a, ha⟩ : ∃ a : ByteArray, a = ⟨T.toArray⟩ := ⟨_, rfl⟩
  obtain ⟨b, hb⟩ : ∃ b : ByteArray, b = ⟨t.toArray⟩ := ⟨_, rfl⟩
  have hsz : ¬ (9223372036854775807 : Int) < (a.size : Int) + (b.size : Int) := by rw [ha, hb, bytes_size, bytes_size]; omega
  have HAB := Lib.hid (show (.string (a ++ b) : Value) = txt (T ++ t) by rw [ha, hb, bytes_append]; rfl)
  rw [show txt T = .string a by rw [ha]; rfl] at k1
  rw [show txt t = .string b by rw [hb]; rfl]
  have HBA := Lib.hid hB
  have hn1 : (n : Int) ≤ 10000 := by omega
  have hn0 : (0 : Int) ≤ n := by omega
  clear h hc hf hl hB hA hs hn hn' ha hb
  go_enter Tryd.func59, Tryd.ntmps59
  go_wp2_with fail
  refine bodyPost_ret (results_none rfl _ _ _) rfl ?_
  have hj := HJ.out
  rw [HN.out] at hj
  rw [HAB.out]
  exact ⟨rfl, ⟨_, _, F, hj⟩, Kept.setCell (D := fun k => B ≤ k) (Kept.refl _ _) (.inl HBA.out) _⟩

theorem infoPart : (Tryd.prog.info? 25).map (fun i => (i.zero, i.size, i.bytes)) = some (some (.agg #[.int .i64 0, .string ⟨#[]⟩, .string ⟨#[]⟩, .slice none 0 0, .bool false]), 5, 72) := by kernel_rfl
end Go.Proofs.YtpifbpfmjmcchaaDoor
