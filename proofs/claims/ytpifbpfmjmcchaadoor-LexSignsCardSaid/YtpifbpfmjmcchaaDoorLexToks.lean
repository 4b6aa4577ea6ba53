/-
  Proved: rows of tokens in memory; what tokens take. Conditions: as each says.
-/
import Derived.Test.YtpifbpfmjmcchaaDoorLexToken
import Derived.Test.YtpifbpfmjmcchaaDoorLexBegin
namespace Go.Proofs.YtpifbpfmjmcchaaDoor
open Go Go.RowKit GlyphMath LexMath

/-! ### what a token takes -/
theorem skip_suf (xs : List Nat) : Suf xs (skipM xs) := by
  unfold skipM
  split
  · exact (Suf.left _ _).trans (Suf.left _ _)
  · exact Suf.left _ _
theorem skip_next (xs : List Nat) : skipM xs = [] ∨ (next (skipM xs) ≠ 32 ∧ next (skipM xs) ≠ 9) := by
  unfold skipM
  split
  · rcases left_head (fun r => r == 10) (left (fun r => r != 32 && r != 9) xs) with h | h
    · exact .inl h
    · right
      have e : next (left (fun r => r == 10) (left (fun r => r != 32 && r != 9) xs)) = 10 := by simpa using h
      rw [e]; decide
  · rcases left_head (fun r => r != 32 && r != 9) xs with h | h
    · exact .inl h
    · right; simpa using h
theorem sign_less : ∀ (l : List (List Nat)) (xs p r : List Nat), (∀ q ∈ l, q ≠ []) → signM l xs = some (p, r) → Less xs r
  | [], _, _, _, _, h => by cases h
  | q :: l, xs, p, r, hl, h => by
    rw [signM] at h
    cases ht : takes q xs with
    | some ys => rw [ht] at h; cases h; exact takes_less ht (hl q (by simp))
    | none => rw [ht] at h; exact sign_less l xs p r (fun q' hq => hl q' (List.mem_cons_of_mem _ hq)) h
theorem sign_none : ∀ (l : List (List Nat)) (xs : List Nat) (c : Nat), signM l xs = none → [c] ∈ l → next xs ≠ c ∨ xs = []
  | [], _, _, _, h => by cases h
  | q :: l, xs, c, h, hm => by
    rw [signM] at h
    cases ht : takes q xs with
    | some ys => rw [ht] at h; cases h
    | none =>
      rw [ht] at h
      rcases List.mem_cons.1 hm with rfl | hm
      · rw [takes_one] at ht
        by_cases e : next xs = c ∧ xs ≠ []
        · rw [if_pos e] at ht; cases ht
        · by_cases e1 : xs = []
          · exact .inr e1
          · exact .inl fun e2 => e ⟨e2, e1⟩
      · exact sign_none l xs c h hm
theorem word_less {xs r : List Nat} {ps : List Pt} (hg : ∀ c ∈ xs, GoodL c) (hx : xs ≠ []) (hs : signM signs xs = none) (ha : next xs ≠ 38) (h32 : next xs ≠ 32) (h9 : next xs ≠ 9) (h : partsM 20 xs = .ok (ps, r)) : Less xs r := by
  have hn : ∀ c, [c] ∈ signs → next xs ≠ c := fun c hc => (sign_none signs xs c hs hc).resolve_right hx
  have e : ends (next xs) (decide (19 < 19)) = false := by
    have h1 := hn 59 (by decide)
    have h2 := hn 124 (by decide)
    have h3 := hn 40 (by decide)
    have h4 := hn 41 (by decide)
    have h5 := hn 60 (by decide)
    have h6 := hn 62 (by decide)
    have h7 := hn 10 (by decide)
    have hb : blankR (next xs : Int) = false := by unfold blankR; simp; omega
    show (blankR (next xs : Int) || (next xs == 59 || next xs == 38 || next xs == 124 || next xs == 40 || next xs == 41 || next xs == 60 || next xs == 62)) = false
    rw [hb]
    simp [h1, h2, h3, h4, h5, h6, ha]
  have h0 : next xs ≠ 0 := fun e0 => hx ((next_zero hg).1 e0)
  have hb := braces_ok (parts_ok 19) false
  have h' : partsL (bracesM false (partsM 19)) (decide (19 < 19)) (xs.length + 1) xs [] = .ok (ps, r) := h
  rw [partsL, if_neg (by rintro (h1 | h1); exact h0 h1; rw [e] at h1; cases h1)] at h'
  cases hp : partM (bracesM false (partsM 19)) (decide (19 < 19)) xs [] with
  | error c => rw [hp] at h'; cases h'
  | ok a =>
    obtain ⟨ps', xs'⟩ := a
    rw [hp] at h'
    simp only at h'
    exact (part_less hb hp h0 e).1.suf (partsL_suf hb _ _ _ _ _ h')
theorem token_less {n : Nat} {xs r : List Nat} {t : Tk} (hg : ∀ c ∈ xs, GoodL c) (hx : xs ≠ []) (h32 : next xs ≠ 32) (h9 : next xs ≠ 9) (h : tokenM n xs = .ok (t, r)) : Less xs r ∧ t.kind ≠ 3 := by
  unfold tokenM at h
  cases hs : signM signs xs with
  | some a =>
    obtain ⟨p, r'⟩ := a
    rw [hs] at h
    cases h
    exact ⟨sign_less signs _ _ _ (by decide) hs, by simp⟩
  | none =>
    rw [hs] at h
    simp only at h
    by_cases ha : next xs = 38
    · rw [if_pos ha] at h; cases h
    · rw [if_neg ha] at h
      cases hp : partsM 20 xs with
      | error c => rw [hp] at h; cases h
      | ok a =>
        obtain ⟨ps, r'⟩ := a
        rw [hp] at h
        cases h
        exact ⟨word_less hg hx hs ha h32 h9 hp, by simp⟩

/-! ### Rows of tokens -/
def tcells (t : Tk) (u : Value) : List Value := [.int .i64 t.kind, txt t.text, u, .int .i64 (t.at_ : Int)]
def tokCells : List Tk → List Value → List Value
  | t :: ts, u :: us => tcells t u ++ tokCells ts us
  | _, _ => []
theorem tokCells_append : ∀ (ts : List Tk) (us : List Value) (qs : List Tk) (vs : List Value), ts.length = us.length → tokCells (ts ++ qs) (us ++ vs) = tokCells ts us ++ tokCells qs vs
  | [], [], _, _, _ => rfl
  | t :: ts, u :: us, qs, vs, h => by
    simp only [List.cons_append, tokCells, tokCells_append ts us qs vs (by simpa using h), List.append_assoc]
  | [], _ :: _, _, _, h => by simp at h
  | _ :: _, [], _, _, h => by simp at h
theorem tokCells_length : ∀ (ts : List Tk) (us : List Value), ts.length = us.length → (tokCells ts us).length = ts.length * 4
  | [], [], _ => rfl
  | t :: ts, u :: us, h => by
    rw [tokCells, List.length_append, tokCells_length ts us (by simpa using h), List.length_cons]
    simp only [tcells, List.length_cons, List.length_nil]; omega
  | [], _ :: _, h => by simp at h
  | _ :: _, [], h => by simp at h
theorem tokCells_get : ∀ (ts : List Tk) (us : List Value) (j : Nat) (t : Tk) (u : Value), ts[j]? = some t → us[j]? = some u → ts.length = us.length → ∀ i, i < 4 → (tokCells ts us)[j * 4 + i]? = (tcells t u)[i]?
  | [], _, _, _, _, h, _, _, _, _ => by simp at h
  | _ :: _, [], _, _, _, _, h, _, _, _ => by simp at h
  | a :: ts, b :: us, 0, t, u, h1, h2, _, i, hi => by
    simp only [List.getElem?_cons_zero, Option.some.injEq] at h1 h2
    subst h1 h2
    rw [tokCells, Nat.zero_mul, Nat.zero_add, List.getElem?_append_left (by simp [tcells]; omega)]
  | a :: ts, b :: us, j + 1, t, u, h1, h2, hl, i, hi => by
    simp only [List.getElem?_cons_succ] at h1 h2
    rw [tokCells, show (j + 1) * 4 + i = 4 + (j * 4 + i) by omega, List.getElem?_append_right (by simp [tcells])]
    simpa [tcells] using tokCells_get ts us j t u h1 h2 (by simpa using hl) i hi
/-- A row of tokens at B and above, but not in block X. -/
structure TokO (w : World) (B X : Nat) (v : Value) (us : List Value) (F : Nat → Prop) (ts : List Tk) : Prop where
  own : w.ownsRow B 36 4 v ts.length (tokCells ts us)
  len : ts.length = us.length
  sub : ∀ (j : Nat) (t : Tk) (u : Value), ts[j]? = some t → us[j]? = some u → WordV w F u t.word
  far : ∀ g, F g → B ≤ g ∧ g < w.heap.size ∧ g ≠ X ∧ v.ownBlock ≠ some g
  ne : v.ownBlock ≠ some X
theorem TokO.kept {D : Nat → Prop} {w w' : World} {B X : Nat} {v : Value} {us : List Value} {F : Nat → Prop} {ts : List Tk} (h : TokO w B X v us F ts) (hk : Kept D w w') (hD : ∀ k, B ≤ k → k < w.heap.size → k ≠ X → ¬ D k) : TokO w' B X v us F ts where
  own := ownsRow_same h.own fun g hg => hk.block g (World.ownsRow.lt h.own g hg).2 (hD g (World.ownsRow.lt h.own g hg).1 (World.ownsRow.lt h.own g hg).2 fun e => h.ne (by rw [hg, e]))
  len := h.len
  sub := fun j t u ht hu => (h.sub j t u ht hu).same fun g hg => hk.block g (h.far g hg).2.1 (hD g (h.far g hg).1 (h.far g hg).2.1 (h.far g hg).2.2.1)
  far := fun g hg => ⟨(h.far g hg).1, Nat.lt_of_lt_of_le (h.far g hg).2.1 hk.size, (h.far g hg).2.2⟩
  ne := h.ne
theorem TokO.shape {w : World} {B X : Nat} {v : Value} {us : List Value} {F : Nat → Prop} {ts : List Tk} (h : TokO w B X v us F ts) : ∃ a c, v = .slice a ts.length c := by
  rcases h.own.2 with ⟨hv, h0⟩ | ⟨g, cap, cur, hv, _⟩
  · exact ⟨none, 0, by rw [hv, h0]⟩
  · exact ⟨_, _, hv⟩
theorem TokO.nil (w : World) (B X : Nat) : TokO w B X (.slice none 0 0) [] (fun _ => False) [] :=
  ⟨World.ownsRow_nil _ _ _ _, rfl, fun _ _ _ h => by simp at h, fun _ h => h.elim, by simp [Value.ownBlock]⟩
/-- One token more. -/
theorem TokO.add {w0 w1 : World} {B X C g cap : Nat} {v u : Value} {us : List Value} {F : Nat → Prop} {ts : List Tk} {t : Tk} {o : Obj} (h : TokO w0 B X v us F ts) (hX : X < w0.heap.size) (hC : WordN w0 C u t.word) (hBC : B ≤ C) (hXC : X < C) (hvC : ∀ g, v.ownBlock = some g → g < C)
    (hown : w1.ownsRow B 36 4 (.slice (some ⟨g, 0, none⟩) (ts.length + 1) cap) (ts.length + 1) (tokCells ts us ++ tcells t u)) (hgrow : (w0.alloc o).grownBy w1 v.ownBlock) (hat : v.ownBlock = some g ∨ g = w0.heap.size + 1) :
    ∃ F', TokO w1 B X (.slice (some ⟨g, 0, none⟩) (ts.length + 1) cap) (us ++ [u]) F' (ts ++ [t]) := by
  obtain ⟨F2, c1, c2⟩ := hC
  have hsz : (w0.alloc o).heap.size = w0.heap.size + 1 := by simp
  have hs1 := hgrow.size
  rw [hsz] at hs1
  have hold : ∀ j, j < w0.heap.size → v.ownBlock ≠ some j → w1.heap[j]? = w0.heap[j]? := fun j hj hn => (hgrow.block j (by rw [hsz]; omega) (fun e => hn e.symm)).trans (Below.heap_alloc _ _ _ hj)
  have hg : ∀ i, i < w0.heap.size → v.ownBlock ≠ some i → g ≠ i := fun i hi hn e => hat.elim (fun e2 => hn (by rw [e2, e])) fun e2 => by omega
  refine ⟨fun j => F j ∨ F2 j, { own := ?_, len := by simp [h.len], sub := fun j q x hq hx => ?_, far := fun j hj => ?_, ne := fun e => ?_ }⟩
  · rw [tokCells_append _ _ _ _ h.len]
    simpa [tokCells] using hown
  · rcases Nat.lt_or_ge j ts.length with hj | hj
    · rw [List.getElem?_append_left hj] at hq
      rw [List.getElem?_append_left (by rw [← h.len]; exact hj)] at hx
      exact ((h.sub j q x hq hx).same fun i hi => hold i (h.far i hi).2.1 (h.far i hi).2.2.2).mono fun i hi => .inl hi
    · rw [List.getElem?_append_right hj] at hq
      rw [List.getElem?_append_right (by rw [← h.len]; exact hj)] at hx
      obtain ⟨hj0, hq0⟩ := List.getElem?_eq_some_iff.1 hq
      obtain ⟨_, hx0⟩ := List.getElem?_eq_some_iff.1 hx
      simp only [List.length_singleton] at hj0
      simp only [List.getElem_singleton] at hq0 hx0
      subst hq0 hx0
      exact (c1.same fun i hi => hold i (c2 i hi).2 (fun e => by have := hvC i e; have := (c2 i hi).1; omega)).mono fun i hi => .inr hi
  · rcases hj with hj | hj
    · obtain ⟨a1, a2, a3, a4⟩ := h.far j hj
      exact ⟨a1, by omega, a3, fun e => hg j a2 a4 (by simpa [Value.ownBlock] using e)⟩
    · obtain ⟨a1, a2⟩ := c2 j hj
      exact ⟨by omega, by omega, by omega, fun e => hg j a2 (fun e2 => by have := hvC j e2; omega) (by simpa [Value.ownBlock] using e)⟩
  · exact hg X hX h.ne (by simpa [Value.ownBlock] using e)
end Go.Proofs.YtpifbpfmjmcchaaDoor
