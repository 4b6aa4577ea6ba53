/-
  Proved: a part in a variable; letters of a text that is made of letters; the contracts of parameter and op. Conditions: the reader lies in memory.
-/
import Derived.Test.YtpifbpfmjmcchaaDoorLexRows
import Derived.Laws.ResultCell
namespace Go.Proofs.YtpifbpfmjmcchaaDoor
open Go Go.RowKit GlyphMath LexMath

/-! ### A variable of five cells -/
theorem five_cells {w : World} {k : Nat} {a b c d e : Value} {t : TypeId} {fr : Nat × Nat} (h : w.heap[k]? = some (.cells #[a, b, c, d, e] t fr)) :
    w.cell? ⟨k, 0, none⟩ = some a ∧ w.cell? ⟨k, 1, none⟩ = some b ∧ w.cell? ⟨k, 2, none⟩ = some c ∧ w.cell? ⟨k, 3, none⟩ = some d ∧ w.cell? ⟨k, 4, none⟩ = some e := by
  refine ⟨?_, ?_, ?_, ?_, ?_⟩ <;> simp [World.cell?, h]
theorem five_free {w : World} {k : Nat} {a b c d e : Value} {t : TypeId} (h : w.heap[k]? = some (.cells #[a, b, c, d, e] t (0, 0))) (j : Nat) : w.frozen? ⟨k, j, none⟩ = false := frozen_plain h j
theorem five_kept {D : Nat → Prop} {k : Nat} {w w' : World} (hb : Kept D w w') (hk : D k ∨ w.heap.size ≤ k) (a b c d e : Value) : Kept D w (((((w'.setCell ⟨k, 0, none⟩ a).setCell ⟨k, 1, none⟩ b).setCell ⟨k, 2, none⟩ c).setCell ⟨k, 3, none⟩ d).setCell ⟨k, 4, none⟩ e) :=
  ((((hb.setCell (p := ⟨k, 0, none⟩) hk _).setCell (p := ⟨k, 1, none⟩) hk _).setCell (p := ⟨k, 2, none⟩) hk _).setCell (p := ⟨k, 3, none⟩) hk _).setCell (p := ⟨k, 4, none⟩) hk _
theorem five_put {w : World} {k : Nat} {x0 x1 x2 x3 x4 : Value} {t : TypeId} (h : w.heap[k]? = some (.cells #[x0, x1, x2, x3, x4] t (0, 0))) (a b c d e : Value) :
    (((((w.setCell ⟨k, 0, none⟩ a).setCell ⟨k, 1, none⟩ b).setCell ⟨k, 2, none⟩ c).setCell ⟨k, 3, none⟩ d).setCell ⟨k, 4, none⟩ e).heap[k]? = some (.cells #[a, b, c, d, e] t (0, 0)) :=
  heap_setCell_same _ k 4 _ t e (heap_setCell_same _ k 3 _ t d (heap_setCell_same _ k 2 _ t c (heap_setCell_same _ k 1 _ t b (heap_setCell_same w k 0 _ t a h))))
theorem part_info : (Tryd.prog.info? 25).map (·.size) = some 5 := by kernel_rfl
theorem load_part {w : World} {k : Nat} {a b c d e : Value} {t : TypeId} {fr : Nat × Nat} (h : w.heap[k]? = some (.cells #[a, b, c, d, e] t fr)) : (loadVar 25 ⟨k, 0, none⟩).run Tryd.prog w = .ok (.agg #[a, b, c, d, e]) w :=
  run_loadVar_row (P := Tryd.prog) w k t 25 _ fr _ h Tryd.underlying25 rfl part_info
theorem ret_part {fn : Func} {p u : Tmp} (hf : fn.results = #[.cell p 25, .tmp u]) {tmps : Array Value} {k : Nat} {a b c d e x : Value} {w : World} {t : TypeId} {fr : Nat × Nat} (h : w.heap[k]? = some (.cells #[a, b, c, d, e] t fr)) (h2 : tmps.getD p undef = .pointer (some ⟨k, 0, none⟩)) (h3 : tmps.getD u undef = x) :
    (results fn tmps).run Tryd.prog w = .ok (.tuple #[.agg #[a, b, c, d, e], x]) w := by
  rw [results_cell_tmp hf, h2, h3]
  simp [asAddr, Result.andThen, load_part h]

/-- A part as a value. -/
def partV (p : Pt) (u : Value) : Value := .agg #[.int .i64 p.kind, txt p.text, txt p.op, u, .bool p.q]
def zeroV : Value := .slice none 0 0
/-- What a function answers that takes a part. -/
def PartEnd (w w' : World) (e : Ending) (X G sz : Nat) (m : Res Pt) : Prop :=
  match m with
  | .ok (p, xs) => ∃ u, e = .returned (.tuple #[partV p u, .int .i64 0]) ∧ WordN w' w.heap.size u p.word ∧ Rd w' X G sz xs ∧ Kept (fun k => k = X) w w'
  | .error c => (c = 2 ∨ c = 3) ∧ (∃ p : Pt, e = .returned (.tuple #[partV p zeroV, .int .i64 (c : Int)])) ∧ Kept (fun k => k = X) w w'

/-! ### letters of a text -/
theorem bytes_eb {c : Nat} (h : GoodL c) : Utf8.encode (c : Int) = ⟨(eb c).toArray⟩ := by
  have := encode_good h
  simpa [txt, enc] using this
theorem asLetter_good {c : Nat} (h : GoodL c) : asLetter (c : Int) = c := by unfold asLetter; rw [valid_good h]; rfl
theorem firstBad_eb {c : Nat} (h : GoodL c) : firstBad ⟨(eb c).toArray⟩ = none := by
  rw [← bytes_eb h]
  have hs := (encode_size (c : Int)).1
  unfold firstBad
  obtain ⟨n, hn⟩ : ∃ n, (Utf8.encode (c : Int)).size = n + 1 := ⟨(Utf8.encode (c : Int)).size - 1, by omega⟩
  rw [hn, badAt, if_pos (by omega)]
  have hb : bad (Utf8.encode (c : Int)) 0 = false := by
    unfold bad
    rw [decode_encode, asLetter_good h]
    have h0 : (c == 0) = false := by
      have := h.1
      have : ¬ c = 0 := by omega
      simpa using this
    rw [h0, Bool.false_or]
    by_cases hc : c = 65533
    · subst hc; rfl
    · have : (c == 65533) = false := by simpa using hc
      rw [this]; rfl
  rw [hb, decode_encode]
  exact badAt_end _ _ _ (by simp only; omega)
theorem letters_enc : ∀ (l : List Nat), (∀ c ∈ l, GoodL c) → letters ⟨(enc l).toArray⟩ = l
  | [], _ => rfl
  | c :: r, h => by
    have hc := h c (by simp)
    have ih := letters_enc r fun x hx => h x (List.mem_cons_of_mem _ hx)
    have e : (⟨(enc (c :: r)).toArray⟩ : ByteArray) = ⟨(eb c).toArray⟩ ++ ⟨(enc r).toArray⟩ := by rw [bytes_append]; rfl
    rw [e, letters_append _ _ (firstBad_eb hc), ih, ← bytes_eb hc, letters_encode, asLetter_good hc]
    rfl
theorem got_good {S : Nat → Bool} {xs : List Nat} (h : ∀ c ∈ xs, GoodL c) : ∀ c ∈ got S xs, GoodL c := fun c hc => h c (by rw [← got_left S xs]; exact List.mem_append_left _ hc)
theorem nameT {l : List Nat} (h : ∀ c ∈ l, GoodL c) (w : World) :
    Calls Tryd.prog 87 #[txt (enc l)] w fun e w' => e = .returned (.bool (nameL l)) ∧ Below w.heap.size w w' := by
  have := name_any ⟨(enc l).toArray⟩ w
  rwa [letters_enc l h] at this

def ZB : Obj := .cells #[.int .i64 0, .string ⟨#[]⟩, .string ⟨#[]⟩, .slice none 0 0, .bool false] 25

set_option maxHeartbeats 1000000 in
set_option maxRecDepth 100000 in
theorem parameter_other {w : World} {X G sz : Nat} {xs : List Nat} (h : Rd w X G sz xs) (ho : other (next xs) = true) :
    Calls Tryd.prog 74 #[.pointer (some ⟨X, 0, none⟩)] w fun e w' => e = .returned (.tuple #[partV ⟨2, enc [next xs], [], [], false⟩ zeroV, .int .i64 0]) ∧ RStep w w' X G sz xs.tail := by
  have hg : GoodL (next xs) := (next_lt0 h.good).resolve_left fun e => by rw [e] at ho; cases ho
  have HR := Lib.hid (h.below ((Below.refl _ w).alloc (Nat.le_refl _) ZB))
  have HA := Lib.hid (fun W => by have := other_any (next xs) (.inr hg) W; rw [ho] at this; exact this)
  have HE := Lib.hid (encode_good hg)
  have HX := Lib.hid h.lt
  obtain ⟨c, hc⟩ : ∃ c, next xs = c := ⟨_, rfl⟩
  rw [hc] at HA HE ⊢
  have HC := Lib.hid hc
  clear h ho hg hc
  go_enter Tryd.func74, Tryd.ntmps74
  go_wp2_with (first
    | (go_at_call 26; refine (next_any HR.out).mono ?_; rintro e w1 ⟨rfl, rfl⟩; rw [HC.out])
    | (go_at_call 73; refine (HA.out _).mono ?_; rintro e w1 ⟨rfl, hb1⟩; have HB1 := Lib.hid hb1; clear hb1))
  refine (take_any (HR.out.below HB1.out)).mono ?_
  rintro e w2 ⟨rfl, hs2⟩
  rw [HC.out]
  have hblk : w2.heap[w.heap.size]? = some ZB := hs2.2.heap ((HB1.out.block _ (by simp)).trans (heap_alloc_new w _)) (fun e => by have := HX.out.1; omega)
  obtain ⟨d0, d1, d2, d3, d4⟩ := five_cells hblk
  have fz := five_free hblk
  have f0 := fz 0
  have f1 := fz 1
  have f2 := fz 2
  have f3 := fz 3
  have f4 := fz 4
  have HB := Lib.hid hblk
  have HS2 := Lib.hid hs2
  clear hblk fz hs2
  go_wp2_with fail
  (try simp only [Exit.inBlock, Exit.then])
  refine bodyPost_ret (ret_part rfl (five_put HB.out _ _ _ _ _) rfl rfl) rfl ⟨by rw [HE.out]; rfl, ?_, ?_⟩
  · exact HS2.out.1.kept (five_kept (D := fun k => w.heap.size ≤ k) (Kept.refl _ _) (.inl (Nat.le_refl _)) _ _ _ _ _) (by have := HX.out.1; omega) (by have := HX.out.2; omega)
  · exact (((Kept.of_below ((Below.refl _ w).alloc (Nat.le_refl _) ZB)).trans (Kept.of_below (D := fun _ => False) HB1.out) (fun _ h => h.elim)).on HS2.out.2).trans (five_kept (D := fun k => w.heap.size ≤ k) (Kept.refl _ _) (.inl (Nat.le_refl _)) _ _ _ _ _) (fun _ h => .inr h)
end Go.Proofs.YtpifbpfmjmcchaaDoor
