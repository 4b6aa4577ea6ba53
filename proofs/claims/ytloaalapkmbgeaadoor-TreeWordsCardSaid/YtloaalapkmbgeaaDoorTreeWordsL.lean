/-
  Proved: plain facts for the law TreeWords: blocks made one behind the other, parts in a block, the words by hand. Conditions: as each says.
-/
import Derived.Test.YtloaalapkmbgeaaDoorTreeKnown
namespace Go.Proofs.YtloaalapkmbgeaaDoor
open Go Go.RowKit GlyphMath LexMath TreeMath

theorem heap_seven {w : World} {A B C D E F G : Obj} : let W := ((((((w.alloc A).alloc B).alloc C).alloc D).alloc E).alloc F).alloc G
    Below w.heap.size w W ∧ W.heap[w.heap.size]? = some A ∧ W.heap[w.heap.size + 1]? = some B ∧ W.heap[w.heap.size + 2]? = some C ∧ W.heap[w.heap.size + 3]? = some D ∧ W.heap[w.heap.size + 4]? = some E ∧ W.heap[w.heap.size + 5]? = some F ∧ W.heap[w.heap.size + 6]? = some G := by
  intro W
  have s1 : (w.alloc A).heap.size = w.heap.size + 1 := by simp
  have s2 : ((w.alloc A).alloc B).heap.size = w.heap.size + 2 := by simp
  have s3 : (((w.alloc A).alloc B).alloc C).heap.size = w.heap.size + 3 := by simp
  have s4 : ((((w.alloc A).alloc B).alloc C).alloc D).heap.size = w.heap.size + 4 := by simp
  have s5 : (((((w.alloc A).alloc B).alloc C).alloc D).alloc E).heap.size = w.heap.size + 5 := by simp
  have s6 : ((((((w.alloc A).alloc B).alloc C).alloc D).alloc E).alloc F).heap.size = w.heap.size + 6 := by simp
  have s7 : (((((((w.alloc A).alloc B).alloc C).alloc D).alloc E).alloc F).alloc G).heap.size = w.heap.size + 7 := by simp
  refine ⟨?_, ?_, ?_, ?_, ?_, ?_, ?_, ?_⟩
  · exact (((((((Below.refl _ w).alloc (by omega) _).alloc (by omega) _).alloc (by omega) _).alloc (by omega) _).alloc (by omega) _).alloc (by omega) _).alloc (by omega) _
  · exact ((Below.heap_alloc ((((((w.alloc A).alloc B).alloc C).alloc D).alloc E).alloc F) G _ (by omega)).trans ((Below.heap_alloc (((((w.alloc A).alloc B).alloc C).alloc D).alloc E) F _ (by omega)).trans ((Below.heap_alloc ((((w.alloc A).alloc B).alloc C).alloc D) E _ (by omega)).trans ((Below.heap_alloc (((w.alloc A).alloc B).alloc C) D _ (by omega)).trans ((Below.heap_alloc ((w.alloc A).alloc B) C _ (by omega)).trans ((Below.heap_alloc (w.alloc A) B _ (by omega)).trans (heap_alloc_new w A)))))))
  · exact ((Below.heap_alloc ((((((w.alloc A).alloc B).alloc C).alloc D).alloc E).alloc F) G _ (by omega)).trans ((Below.heap_alloc (((((w.alloc A).alloc B).alloc C).alloc D).alloc E) F _ (by omega)).trans ((Below.heap_alloc ((((w.alloc A).alloc B).alloc C).alloc D) E _ (by omega)).trans ((Below.heap_alloc (((w.alloc A).alloc B).alloc C) D _ (by omega)).trans ((Below.heap_alloc ((w.alloc A).alloc B) C _ (by omega)).trans (by have := heap_alloc_new (w.alloc A) B; rwa [s1] at this))))))
  · exact ((Below.heap_alloc ((((((w.alloc A).alloc B).alloc C).alloc D).alloc E).alloc F) G _ (by omega)).trans ((Below.heap_alloc (((((w.alloc A).alloc B).alloc C).alloc D).alloc E) F _ (by omega)).trans ((Below.heap_alloc ((((w.alloc A).alloc B).alloc C).alloc D) E _ (by omega)).trans ((Below.heap_alloc (((w.alloc A).alloc B).alloc C) D _ (by omega)).trans (by have := heap_alloc_new ((w.alloc A).alloc B) C; rwa [s2] at this)))))
  · exact ((Below.heap_alloc ((((((w.alloc A).alloc B).alloc C).alloc D).alloc E).alloc F) G _ (by omega)).trans ((Below.heap_alloc (((((w.alloc A).alloc B).alloc C).alloc D).alloc E) F _ (by omega)).trans ((Below.heap_alloc ((((w.alloc A).alloc B).alloc C).alloc D) E _ (by omega)).trans (by have := heap_alloc_new (((w.alloc A).alloc B).alloc C) D; rwa [s3] at this))))
  · exact ((Below.heap_alloc ((((((w.alloc A).alloc B).alloc C).alloc D).alloc E).alloc F) G _ (by omega)).trans ((Below.heap_alloc (((((w.alloc A).alloc B).alloc C).alloc D).alloc E) F _ (by omega)).trans (by have := heap_alloc_new ((((w.alloc A).alloc B).alloc C).alloc D) E; rwa [s4] at this)))
  · exact ((Below.heap_alloc ((((((w.alloc A).alloc B).alloc C).alloc D).alloc E).alloc F) G _ (by omega)).trans (by have := heap_alloc_new (((((w.alloc A).alloc B).alloc C).alloc D).alloc E) F; rwa [s5] at this))
  · exact (by have := heap_alloc_new ((((((w.alloc A).alloc B).alloc C).alloc D).alloc E).alloc F) G; rwa [s6] at this)
theorem calls_seven {P : Program} {f : FuncId} {args : Array Value} {w : World} {A B C D E F G : Obj} {Q : Ending → World → Prop} (h : ∀ W : World, Below w.heap.size w W → W.heap[w.heap.size]? = some A → W.heap[w.heap.size + 1]? = some B → W.heap[w.heap.size + 2]? = some C → W.heap[w.heap.size + 3]? = some D → W.heap[w.heap.size + 4]? = some E → W.heap[w.heap.size + 5]? = some F → W.heap[w.heap.size + 6]? = some G → Calls P f args W Q) :
    Calls P f args (((((((w.alloc A).alloc B).alloc C).alloc D).alloc E).alloc F).alloc G) Q := by
  obtain ⟨h0, h1, h2, h3, h4, h5, h6, h7⟩ := heap_seven (w := w) (A := A) (B := B) (C := C) (D := D) (E := E) (F := F) (G := G)
  exact h _ h0 h1 h2 h3 h4 h5 h6 h7

/-- Parts in a block of their own. -/
theorem row_parts {W : World} {k : Nat} {ps : List Pt} {us : List Value} {t : TypeId} {fz : Nat × Nat} (h : W.heap[k]? = some (.cells (rowCells ps us).toArray t fz)) (hl : ps.length = us.length) (hm : ps.length ≤ maxLen)
    (hs : ∀ (j : Nat) (q : Pt) (u : Value), ps[j]? = some q → us[j]? = some u → PsAt W u q.word) (c : Nat) : PsAt W (.slice (some ⟨k, 0, none⟩) ps.length c) ps :=
  .mk (some ⟨k, 0, none⟩) c ps us hl.symm hm (fun j q v hq hv => ⟨k, 0, rfl, fun i u hu => by
    have hi : i < 5 := (List.getElem?_eq_some_iff.1 hu).1
    rw [cell_plain h, Nat.zero_add, List.getElem?_toArray, rowCells_get ps us j q v hq hv hl i hi]
    exact hu⟩) hs
/-- All texts are short, so deep. -/
def smallC : Nat → List Pt → Bool
  | 0, ps => ps.isEmpty
  | k + 1, ps => ps.all fun q => decide (q.text.length ≤ 1048576) && smallC k q.word
theorem small_of : ∀ (k : Nat) (ps : List Pt), smallC k ps = true → Small ps
  | 0, ps, h => by
    rw [smallC, List.isEmpty_iff] at h
    rw [h]; exact Small.nil
  | k + 1, ps, h => by
    rw [smallC, List.all_eq_true] at h
    refine .mk ps (fun q hq => ?_) fun q hq => small_of k q.word ?_
    · have := h q hq
      rw [Bool.and_eq_true] at this
      exact of_decide_eq_true this.1
    · have := h q hq
      rw [Bool.and_eq_true] at this
      exact this.2
def okL : List Pt := [⟨1, [], [], [], true⟩, ⟨2, [120], [58, 45], [⟨1, [97, 32, 98, 59], [], [], false⟩], false⟩, ⟨3, [], [], [], false⟩]
def twL : List Pt := [⟨1, [97], [], [], false⟩, ⟨1, [98], [], [], false⟩]
theorem ok_word : wordT okL = true := by decide +kernel
theorem tw_word : wordT twL = false := by decide +kernel
theorem no_word : wordT [] = false := by decide +kernel
theorem ok_small : Small okL := small_of 2 _ (by decide +kernel)
theorem tw_small : Small twL := small_of 2 _ (by decide +kernel)
def way0 : Pt := ⟨0, [], [], [], false⟩
theorem way0_none : wordT [way0] = false := by decide +kernel
theorem way0_small : Small [way0] := small_of 2 _ (by decide +kernel)
def way1 : Pt := ⟨1, [], [], [], false⟩
theorem way1_none : wordT [way1] = false := by decide +kernel
theorem way1_small : Small [way1] := small_of 2 _ (by decide +kernel)
def way2 : Pt := ⟨1, [97, 32, 98], [], [], false⟩
theorem way2_none : wordT [way2] = false := by decide +kernel
theorem way2_small : Small [way2] := small_of 2 _ (by decide +kernel)
def way3 : Pt := ⟨1, [36], [], [], false⟩
theorem way3_none : wordT [way3] = false := by decide +kernel
theorem way3_small : Small [way3] := small_of 2 _ (by decide +kernel)
def way4 : Pt := ⟨1, [97], [35], [], false⟩
theorem way4_none : wordT [way4] = false := by decide +kernel
theorem way4_small : Small [way4] := small_of 2 _ (by decide +kernel)
def way5 : Pt := ⟨2, [], [], [], false⟩
theorem way5_none : wordT [way5] = false := by decide +kernel
theorem way5_small : Small [way5] := small_of 2 _ (by decide +kernel)
def way6 : Pt := ⟨2, [48], [], [], false⟩
theorem way6_none : wordT [way6] = false := by decide +kernel
theorem way6_small : Small [way6] := small_of 2 _ (by decide +kernel)
def way7 : Pt := ⟨2, [49], [58, 61], [], false⟩
theorem way7_none : wordT [way7] = false := by decide +kernel
theorem way7_small : Small [way7] := small_of 2 _ (by decide +kernel)
def way8 : Pt := ⟨2, [64], [35], [], false⟩
theorem way8_none : wordT [way8] = false := by decide +kernel
theorem way8_small : Small [way8] := small_of 2 _ (by decide +kernel)
def way9 : Pt := ⟨2, [120], [58, 63], [], false⟩
theorem way9_none : wordT [way9] = false := by decide +kernel
theorem way9_small : Small [way9] := small_of 2 _ (by decide +kernel)
def way10 : Pt := ⟨2, [120], [], [⟨1, [97], [], [], false⟩], false⟩
theorem way10_none : wordT [way10] = false := by decide +kernel
theorem way10_small : Small [way10] := small_of 2 _ (by decide +kernel)
def way11 : Pt := ⟨3, [49, 41], [], [], false⟩
theorem way11_none : wordT [way11] = false := by decide +kernel
theorem way11_small : Small [way11] := small_of 2 _ (by decide +kernel)
def way12 : Pt := ⟨3, [40, 49], [], [], false⟩
theorem way12_none : wordT [way12] = false := by decide +kernel
theorem way12_small : Small [way12] := small_of 2 _ (by decide +kernel)
def way13 : Pt := ⟨3, [49, 41, 41, 43, 40, 40, 50], [], [], false⟩
theorem way13_none : wordT [way13] = false := by decide +kernel
theorem way13_small : Small [way13] := small_of 2 _ (by decide +kernel)
def way14 : Pt := ⟨3, [36, 120], [], [], false⟩
theorem way14_none : wordT [way14] = false := by decide +kernel
theorem way14_small : Small [way14] := small_of 2 _ (by decide +kernel)
def way15 : Pt := ⟨2, [120], [58, 45], [⟨1, [125], [], [], false⟩], false⟩
theorem way15_none : wordT [way15] = false := by decide +kernel
theorem way15_small : Small [way15] := small_of 2 _ (by decide +kernel)
def way16 : Pt := ⟨1, [0], [], [], true⟩
theorem way16_none : wordT [way16] = false := by decide +kernel
theorem way16_small : Small [way16] := small_of 2 _ (by decide +kernel)
def way17 : Pt := ⟨4, [97], [], [], false⟩
theorem way17_none : wordT [way17] = false := by decide +kernel
theorem way17_small : Small [way17] := small_of 2 _ (by decide +kernel)
theorem ok_ps {W : World} {d e : Nat} {t t2 : TypeId} (hD : W.heap[d]? = some (.cells #[.int .i64 1, .string ⟨#[97, 32, 98, 59]⟩, .string ⟨#[]⟩, .slice none 0 0, .bool false] t (0, 0))) (hE : W.heap[e]? = some (.cells #[.int .i64 1, .string ⟨#[]⟩, .string ⟨#[]⟩, .slice none 0 0, .bool true, .int .i64 2, .string ⟨#[120]⟩, .string ⟨#[58, 45]⟩, .slice (some ⟨d, 0, none⟩) 1 1, .bool false, .int .i64 3, .string ⟨#[]⟩, .string ⟨#[]⟩, .slice none 0 0, .bool false] t2 (0, 0))) : PsAt W (.slice (some ⟨e, 0, none⟩) 3 3) okL :=
  row_parts (ps := okL) (us := [.slice none 0 0, .slice (some ⟨d, 0, none⟩) 1 1, .slice none 0 0]) hE rfl (by decide) (fun j q u hq hu => by
    match j, hq, hu with
    | 0, hq, hu => obtain rfl := Option.some.inj hq; obtain rfl := Option.some.inj hu; exact PsAt.nil _ _
    | 1, hq, hu => obtain rfl := Option.some.inj hq; obtain rfl := Option.some.inj hu; exact one_part (p := ⟨1, [97, 32, 98, 59], [], [], false⟩) hD (PsAt.nil _ _) 1
    | 2, hq, hu => obtain rfl := Option.some.inj hq; obtain rfl := Option.some.inj hu; exact PsAt.nil _ _
    | j + 3, hq, _ => simp [okL] at hq) 3
theorem tw_ps {W : World} {e : Nat} {t2 : TypeId} (hE : W.heap[e]? = some (.cells #[.int .i64 1, .string ⟨#[97]⟩, .string ⟨#[]⟩, .slice none 0 0, .bool false, .int .i64 1, .string ⟨#[98]⟩, .string ⟨#[]⟩, .slice none 0 0, .bool false] t2 (0, 0))) : PsAt W (.slice (some ⟨e, 0, none⟩) 2 2) twL :=
  row_parts (ps := twL) (us := [.slice none 0 0, .slice none 0 0]) hE rfl (by decide) (fun j q u hq hu => by
    match j, hq, hu with
    | 0, hq, hu => obtain rfl := Option.some.inj hq; obtain rfl := Option.some.inj hu; exact PsAt.nil _ _
    | 1, hq, hu => obtain rfl := Option.some.inj hq; obtain rfl := Option.some.inj hu; exact PsAt.nil _ _
    | j + 2, hq, _ => simp [twL] at hq) 2
end Go.Proofs.YtloaalapkmbgeaaDoor
