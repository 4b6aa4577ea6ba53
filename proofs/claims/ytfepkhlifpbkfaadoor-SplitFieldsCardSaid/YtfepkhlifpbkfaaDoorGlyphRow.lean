/-
  Proved: contracts of Runes (the program's) and of Same, over rows of letters that the call owns. Conditions: at most 1000 bytes.
-/
import Derived.Test.YtfepkhlifpbkfaaDoorGlyphCode
import Derived.OwnWalk
import Derived.Lib.OthersKept
import Derived.Laws.Cover4
namespace Go.Proofs.YtfepkhlifpbkfaaDoor
open Go Go.RowKit GlyphMath

/-- Letters as cells. -/
def rc (l : List Nat) : List Value := l.map fun (x : Nat) => Value.int .i32 (x : Int)
theorem rc_add (l : List Nat) (x : Nat) : rc (l ++ [x]) = rc l ++ [.int .i32 (x : Int)] := by simp [rc]
theorem rc_length (l : List Nat) : (rc l).length = l.length := by simp [rc]
/-- A row of letters that the call owns. -/
def RowL (w : World) (B : Nat) (v : Value) (l : List Nat) : Prop := w.ownsRow B 21 1 v l.length (rc l)

theorem grown_of_below {w w' : World} (h : Below w.heap.size w w') : w.grownBy w' none := ⟨h.os, h.tape, h.output, h.size, fun k hk _ => h.block k hk⟩
theorem RowL.below {w w' : World} {B : Nat} {v : Value} {l : List Nat} (h : RowL w B v l) (hb : Below w.heap.size w w') : RowL w' B v l := by
  refine World.ownsRow.kept h (grown_of_below hb) ?_
  cases hv : v.ownBlock with
  | none => exact .inl rfl
  | some k => exact .inr (by simp)
theorem RowL.nil (w : World) (B : Nat) : RowL w B (.slice none 0 0) [] := World.ownsRow_nil _ _ _ _
theorem RowL.iterAt {w : World} {B K pos pos' : Nat} {s : ByteArray} {v : Value} {l : List Nat} (h : RowL w B v l) (hk : w.heap[K]? = some (.stringIter s pos)) : RowL (w.iterAt K s pos') B v l := by
  refine ⟨h.1, ?_⟩
  rcases h.2 with hn | ⟨g, cap, cur, hv, hbg, hg, r⟩
  · exact .inl hn
  · have hne : g ≠ K := by intro e; rw [e, hk] at hg; cases hg
    exact .inr ⟨g, cap, cur, hv, hbg, (Lib.iterAt_other w K g s pos' hne).trans hg, r⟩
theorem RowL.ne_iter {w : World} {B K pos : Nat} {s : ByteArray} {v : Value} {l : List Nat} (h : RowL w B v l) (hk : w.heap[K]? = some (.stringIter s pos)) : v.ownBlock ≠ some K := by
  intro e
  rcases h.2 with ⟨hn, -⟩ | ⟨g, cap, cur, hv, -, hg, -⟩
  · rw [hn] at e; simp [Value.ownBlock] at e
  · rw [hv] at e
    simp only [Value.ownBlock, Option.some.injEq] at e
    rw [e, hk] at hg; cases hg

/-- What a row's value is: nil, or so many cells. -/
theorem RowL.is {w : World} {B : Nat} {v : Value} {l : List Nat} (h : RowL w B v l) : (v = .slice none 0 0 ∧ l = []) ∨ ∃ g c, v = .slice (some ⟨g, 0, none⟩) l.length c := by
  rcases h.2 with ⟨hv, hn⟩ | ⟨g, cap, cur, hv, -⟩
  · exact .inl ⟨hv, List.eq_nil_of_length_eq_zero hn⟩
  · exact .inr ⟨g, cap, hv⟩

theorem info32 : (Tryd.prog.info? 21).map (fun i => (i.zero, i.size, i.bytes)) = some (some (.int .i32 0), 1, 4) := by kernel_rfl

/-- Gathered so far. -/
def RelR (s : ByteArray) (w : World) (K : Nat) (v : Value) (wr : World) : Prop :=
  ∃ (pos : Nat) (done : List Nat), wr.heap[K]? = some (.stringIter s pos) ∧ w.heap.size ≤ K ∧ Below w.heap.size w wr ∧ RowL wr w.heap.size v done ∧ done ++ rest s pos = letters s ∧ v ≠ .slice none 0 0

theorem relR_step {s : ByteArray} {w : World} {K pos d r : Nat} {v v' : Value} {wr w' : World} {done : List Nat} {c : Value} (hk : wr.heap[K]? = some (.stringIter s pos)) (hK : w.heap.size ≤ K) (hb : Below w.heap.size w wr)
    (hrow : RowL wr w.heap.size v done) (hl : done ++ r :: rest s (pos + d) = letters s) (hne : v' ≠ .slice none 0 0)
    (hown : w'.ownsRow w.heap.size 21 1 v' (done.length + 1) (rc done ++ [.int .i32 (r : Int)])) (hg : ((wr.iterAt K s (pos + d)).alloc (.cells #[c] 21)).grownBy w' v.ownBlock) :
    w'.heap[K]? = some (.stringIter s (pos + d)) ∧ RelR s w K v' w' := by
  have hlt : K < wr.heap.size := (Array.getElem?_eq_some_iff.1 hk).1
  have h1 := Lib.iterAt_heap wr K s pos (pos + d) hk
  have hsz := Lib.iterAt_size wr K s (pos + d)
  have h2 : w'.heap[K]? = some (.stringIter s (pos + d)) := by
    rw [hg.block K (by simp; omega) (fun e => hrow.ne_iter hk e.symm), Below.heap_alloc _ _ _ (by omega)]
    exact h1
  refine ⟨h2, pos + d, done ++ [r], h2, hK, ?_, ?_, by rw [List.append_assoc]; exact hl, hne⟩
  · have b1 := Lib.below_iterAt hb hK s (pos + d)
    have b2 := b1.alloc (by have := hb.size; omega) (.cells #[c] 21)
    refine b2.grown hg (by have := hb.size; simp; omega) ?_
    intro k e
    exact (World.ownsRow.lt hrow k e).1
  · unfold RowL
    rw [rc_add, List.length_append, List.length_singleton]
    exact hown
end Go.Proofs.YtfepkhlifpbkfaaDoor
