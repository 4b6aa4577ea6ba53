/-
  Proved: how a reckoner lies in memory; contracts of its take, last, put, wait, pop. Conditions: as each says.
-/
import Derived.Test.YtlgbfhjbfolibaaDoorArTwo
import Derived.Test.YtlgbfhjbfolibaaDoorArTok
import Derived.Maps.OwnSet
import Derived.Maps.OwnOps
import Derived.Deep.AppendLies
import Derived.OwnWalk
import Derived.StillTailTactics
import Derived.Laws.ResultCell
namespace Go.Proofs.YtlgbfhjbfolibaaDoor
open Go Go.Shelf Go.RowKit ArMath

/-- The reckoner's own cells. -/
abbrev ArBlk (w : World) (X : Nat) (l : ByteArray) (vv mm nn ss : Value) (b : Bool) : Prop := w.heap[X]? = some (.cells #[.string l, vv, mm, nn, ss, .bool b] 46 (0, 0))
def numC (N : List Int) : List Value := N.map fun (x : Int) => Value.int .i64 x
def sgC : List (B × Nat) → List Value
  | [] => []
  | (t, k) :: S => .string (tx t) :: .int .i64 (k : Int) :: sgC S
theorem numC_add (N : List Int) (x : Int) : numC (N ++ [x]) = numC N ++ [.int .i64 x] := by simp [numC]
theorem sgC_append : ∀ (S : List (B × Nat)) (t : B) (k : Nat), sgC (S ++ [(t, k)]) = sgC S ++ [.string (tx t), .int .i64 (k : Int)]
  | [], _, _ => rfl
  | (a, b) :: S, t, k => by simp [sgC, sgC_append S t k]
theorem sgC_length : ∀ S : List (B × Nat), (sgC S).length = S.length * 2
  | [] => rfl
  | (a, b) :: S => by simp [sgC, sgC_length S]; omega

/-- What the names' map stands for. -/
def valL : List Value → Option (DataW Unit × List MemPlace)
  | [.int .i64 n, .bool b] => some (.agg [.lit (.int .i64 n), .lit (.bool b)], [])
  | _ => none
def valE : Value → Option (DataW Unit × List MemPlace)
  | .agg cs => valL cs.toList
  | _ => none
/-- The map says what each name stands for. -/
def MapSays (D : DataW Unit) (vs : Vars) : Prop := Maps.IsMap D ∧ ∀ n : B, Maps.has D (.string n) = vs.any (fun x => x.1 == n) ∧ (vs.any (fun x => x.1 == n) = true → ∀ z, D.atKey (.string n) z = .agg [.lit (.int .i64 (envM vs n).1), .lit (.bool (envM vs n).2)])
def MapAt (w : World) (X : Nat) (vs : Vars) (mm nn ss : Value) : Prop :=
  mm = .map none ∨ ∃ b m D, mm = .map (some b) ∧ X < b ∧ nn.ownBlock ≠ some b ∧ ss.ownBlock ≠ some b ∧ w.ownsMap Tryd.prog 9 valE b m D ∧ MapSays D vs
structure Rws (w : World) (X : Nat) (vs : Vars) (mm nn ss : Value) (N : List Int) (S : List (B × Nat)) : Prop where
  nums : w.ownsRow (X + 1) 2 1 nn N.length (numC N.reverse)
  signs : w.ownsRow (X + 1) 72 2 ss S.length (sgC S.reverse)
  ap : ∀ k, nn.ownBlock = some k → ss.ownBlock ≠ some k
  map : MapAt w X vs mm nn ss
  i64 : ∀ x ∈ N, I64 x
structure Rk (w : World) (X : Nat) (vs : Vars) (vv mm nn ss : Value) (s : St) : Prop where
  blk : ArBlk w X (tx s.left) vv mm nn ss s.bad
  rws : Rws w X vs mm nn ss s.nums s.signs

section
variable {w w' : World} {X : Nat} {vs : Vars} {vv mm nn ss : Value} {s : St}
theorem Rk.lt (h : Rk w X vs vv mm nn ss s) : X < w.heap.size := (Array.getElem?_eq_some_iff.1 h.blk).1
theorem MapAt.same (h : MapAt w X vs mm nn ss) (hk : ∀ b, mm = .map (some b) → w'.heap[b]? = w.heap[b]?) : MapAt w' X vs mm nn ss := by
  rcases h with h | ⟨b, m, D, h1, h2, h3, h4, ⟨es, clock, hb, h5⟩, h6⟩
  · exact .inl h
  · exact .inr ⟨b, m, D, h1, h2, h3, h4, ⟨es, clock, (hk b h1).trans hb, h5⟩, h6⟩
theorem ownsR_same {B e size n : Nat} {v : Value} {xs : List Value} (h : w.ownsRow B e size v n xs) (hk : ∀ g, v.ownBlock = some g → w'.heap[g]? = w.heap[g]?) : w'.ownsRow B e size v n xs := by
  refine ⟨h.1, ?_⟩
  rcases h.2 with hn | ⟨g, cap, cur, hv, hbg, hg, r⟩
  · exact .inl hn
  · exact .inr ⟨g, cap, cur, hv, hbg, (hk g (by rw [hv]; rfl)).trans hg, r⟩
/-- All lies as it lay. -/
theorem Rws.same {N : List Int} {S : List (B × Nat)} (h : Rws w X vs mm nn ss N S) (hk : ∀ k, X < k → k < w.heap.size → w'.heap[k]? = w.heap[k]?) : Rws w' X vs mm nn ss N S where
  nums := ownsR_same h.nums fun g hg => hk g (World.ownsRow.lt h.nums g hg).1 (World.ownsRow.lt h.nums g hg).2
  signs := ownsR_same h.signs fun g hg => hk g (World.ownsRow.lt h.signs g hg).1 (World.ownsRow.lt h.signs g hg).2
  ap := h.ap
  map := h.map.same fun b hm => by
    rcases h.map with h0 | ⟨b', m, D, h1, h2, h3, h4, h5, h6⟩
    · rw [h0] at hm; cases hm
    · rw [h1] at hm
      cases hm
      exact hk b h2 h5.lt
  i64 := h.i64
theorem Rk.new (h : Rk w X vs vv mm nn ss s) (hb : Below w.heap.size w w') : Rk w' X vs vv mm nn ss s where
  blk := (hb.block X h.lt).trans h.blk
  rws := h.rws.same fun k _ hk => hb.block k hk
/-- Other numbers wait, in the same row. -/
theorem Rws.setN {N N' : List Int} {S : List (B × Nat)} {nn' : Value} (h : Rws w X vs mm nn ss N S) (hown : w.ownsRow (X + 1) 2 1 nn' N'.length (numC N'.reverse)) (hb : nn'.ownBlock = nn.ownBlock) (hi : ∀ x ∈ N', I64 x) : Rws w X vs mm nn' ss N' S where
  nums := hown
  signs := h.signs
  ap := fun k hk => h.ap k (hb ▸ hk)
  map := by
    rcases h.map with h0 | ⟨b', m, D, h1, h2, h3, h4, h5, h6⟩
    · exact .inl h0
    · exact .inr ⟨b', m, D, h1, h2, hb ▸ h3, h4, h5, h6⟩
  i64 := hi
/-- Other signs wait, in the same row. -/
theorem Rws.setS {N : List Int} {S S' : List (B × Nat)} {ss' : Value} (h : Rws w X vs mm nn ss N S) (hown : w.ownsRow (X + 1) 72 2 ss' S'.length (sgC S'.reverse)) (hb : ss'.ownBlock = ss.ownBlock) : Rws w X vs mm nn ss' N S' where
  nums := h.nums
  signs := hown
  ap := fun k hk => hb ▸ h.ap k hk
  map := by
    rcases h.map with h0 | ⟨b', m, D, h1, h2, h3, h4, h5, h6⟩
    · exact .inl h0
    · exact .inr ⟨b', m, D, h1, h2, h3, hb ▸ h4, h5, h6⟩
  i64 := h.i64
/-- One more number waits: in the same row, or in a new one. -/
theorem Rws.addN {N : List Int} {S : List (B × Nat)} {g cap : Nat} {x : Int} (h : Rws w X vs mm nn ss N S) (hx : I64 x) (hown : w'.ownsRow (X + 1) 2 1 (.slice (some ⟨g, 0, none⟩) (N.length + 1) cap) (N.length + 1) (numC N.reverse ++ [.int .i64 x]))
    (hk : ∀ k, k < w.heap.size → nn.ownBlock ≠ some k → w'.heap[k]? = w.heap[k]?) (hg : nn.ownBlock = some g ∨ w.heap.size ≤ g) : Rws w' X vs mm (.slice (some ⟨g, 0, none⟩) (N.length + 1) cap) ss (x :: N) S where
  nums := by rw [List.length_cons, List.reverse_cons, numC_add]; exact hown
  signs := ownsR_same h.signs fun k hs => hk k (World.ownsRow.lt h.signs k hs).2 fun hn => h.ap k hn hs
  ap := fun k hn hs => by
    have e : g = k := by simpa [Value.ownBlock] using hn
    subst e
    rcases hg with hg | hg
    · exact h.ap g hg hs
    · have := (World.ownsRow.lt h.signs g hs).2; omega
  map := by
    rcases h.map with h0 | ⟨b', m, D, h1, h2, h3, h4, ⟨es, clock, hb, h5⟩, h6⟩
    · exact .inl h0
    · have hlt := (Array.getElem?_eq_some_iff.1 hb).1
      refine .inr ⟨b', m, D, h1, h2, fun e => ?_, h4, ⟨es, clock, (hk b' hlt h3).trans hb, h5⟩, h6⟩
      have e : g = b' := by simpa [Value.ownBlock] using e
      subst e
      rcases hg with hg | hg
      · exact h3 hg
      · omega
  i64 := fun y hy => by rcases List.mem_cons.1 hy with rfl | hy; · exact hx
                        · exact h.i64 y hy
/-- One more sign waits. -/
theorem Rws.addS {N : List Int} {S : List (B × Nat)} {g cap k0 : Nat} {t : B} (h : Rws w X vs mm nn ss N S) (hown : w'.ownsRow (X + 1) 72 2 (.slice (some ⟨g, 0, none⟩) (S.length + 1) cap) (S.length + 1) (sgC S.reverse ++ [.string (tx t), .int .i64 (k0 : Int)]))
    (hk : ∀ k, k < w.heap.size → ss.ownBlock ≠ some k → w'.heap[k]? = w.heap[k]?) (hg : ss.ownBlock = some g ∨ w.heap.size ≤ g) : Rws w' X vs mm nn (.slice (some ⟨g, 0, none⟩) (S.length + 1) cap) N ((t, k0) :: S) where
  signs := by rw [List.length_cons, List.reverse_cons, sgC_append]; exact hown
  nums := ownsR_same h.nums fun k hn => hk k (World.ownsRow.lt h.nums k hn).2 (h.ap k hn)
  ap := fun k hn hs => by
    have e : g = k := by simpa [Value.ownBlock] using hs
    subst e
    rcases hg with hg | hg
    · exact h.ap g hn hg
    · have := (World.ownsRow.lt h.nums g hn).2; omega
  map := by
    rcases h.map with h0 | ⟨b', m, D, h1, h2, h3, h4, ⟨es, clock, hb, h5⟩, h6⟩
    · exact .inl h0
    · have hlt := (Array.getElem?_eq_some_iff.1 hb).1
      refine .inr ⟨b', m, D, h1, h2, h3, fun e => ?_, ⟨es, clock, (hk b' hlt h4).trans hb, h5⟩, h6⟩
      have e : g = b' := by simpa [Value.ownBlock] using e
      subst e
      rcases hg with hg | hg
      · exact h4 hg
      · omega
  i64 := h.i64
theorem below_from {B : Nat} (hB : B ≤ w.heap.size) (hb : Below w.heap.size w w') : Below B w w' := hb.mono hB
end
/-- A row without its last. -/
theorem owns_pop {w : World} {B e size n : Nat} {v : Value} {xs ys : List Value} (h : w.ownsRow B e size v (n + 1) (xs ++ ys)) (hy : ys.length = size) : ∃ g cap, v = .slice (some ⟨g, 0, none⟩) (n + 1) cap ∧ B ≤ g ∧ n + 1 ≤ cap ∧ cap ≤ maxLen ∧ w.ownsRow B e size (.slice (some ⟨g, 0, none⟩) n cap) n xs ∧ (∀ i u, ys[i]? = some u → w.cell? ⟨g, n * size + i, none⟩ = some u) := by
  have hlen := h.1
  rw [List.length_append, hy, Nat.succ_mul] at hlen
  rcases h.2 with ⟨_, h0⟩ | ⟨g, cap, cur, hv, hbg, hg, h1, h2, h3, h4⟩
  · omega
  · refine ⟨g, cap, hv, hbg, h1, h2, ⟨by omega, .inr ⟨g, cap, cur, rfl, hbg, hg, by omega, h2, h3, ?_⟩⟩, fun i u hu => ?_⟩
    · have h5 := congrArg (List.take (n * size)) h4
      rw [List.take_take, Nat.succ_mul, show min (n * size) (n * size + size) = n * size by omega, List.take_append_of_le_length (show n * size ≤ xs.length by omega), List.take_of_length_le (show xs.length ≤ n * size by omega)] at h5
      exact h5
    · have hi := (List.getElem?_eq_some_iff.1 hu).1
      rw [cell_of_row w g _ cur e (0, 0) hg]
      have : (cur.toList.take ((n + 1) * size))[n * size + i]? = some u := by
        rw [h4, List.getElem?_append_right (by omega), show n * size + i - xs.length = i by omega]; exact hu
      rw [List.getElem?_take] at this
      split at this
      · simpa using this
      · cases this

theorem ar_cell {w : World} {X : Nat} {l : ByteArray} {vv mm nn ss : Value} {b : Bool} (h : ArBlk w X l vv mm nn ss b) :
    w.cell? ⟨X, 0, none⟩ = some (.string l) ∧ w.cell? ⟨X, 1, none⟩ = some vv ∧ w.cell? ⟨X, 2, none⟩ = some mm ∧ w.cell? ⟨X, 3, none⟩ = some nn ∧ w.cell? ⟨X, 4, none⟩ = some ss ∧ w.cell? ⟨X, 5, none⟩ = some (.bool b) ∧ ∀ o, w.frozen? ⟨X, o, none⟩ = false :=
  ⟨cell_of_row w X 0 _ _ _ h, cell_of_row w X 1 _ _ _ h, cell_of_row w X 2 _ _ _ h, cell_of_row w X 3 _ _ _ h, cell_of_row w X 4 _ _ _ h, cell_of_row w X 5 _ _ _ h, fun o => Lib.frozen_of_heap h o⟩
section
variable {w : World} {X : Nat} {l : ByteArray} {vv mm nn ss : Value} {b : Bool} (h : ArBlk w X l vv mm nn ss b)
include h
theorem ar_set0 (l' : ByteArray) : ArBlk (w.setCell ⟨X, 0, none⟩ (.string l')) X l' vv mm nn ss b := by simp [ArBlk, World.setCell, Array.getElem?_modify, h]
theorem ar_set2 (u : Value) : ArBlk (w.setCell ⟨X, 2, none⟩ u) X l vv u nn ss b := by simp [ArBlk, World.setCell, Array.getElem?_modify, h]
theorem ar_set3 (u : Value) : ArBlk (w.setCell ⟨X, 3, none⟩ u) X l vv mm u ss b := by simp [ArBlk, World.setCell, Array.getElem?_modify, h]
theorem ar_set4 (u : Value) : ArBlk (w.setCell ⟨X, 4, none⟩ u) X l vv mm nn u b := by simp [ArBlk, World.setCell, Array.getElem?_modify, h]
theorem ar_set5 (u : Bool) : ArBlk (w.setCell ⟨X, 5, none⟩ (.bool u)) X l vv mm nn ss u := by simp [ArBlk, World.setCell, Array.getElem?_modify, h]
end
theorem ar_other {w : World} {X o : Nat} {u : Value} {k : Nat} (hk : X ≠ k) : (w.setCell ⟨X, o, none⟩ u).heap[k]? = w.heap[k]? := Below.heap_setCell w ⟨X, o, none⟩ u k (fun e => hk e.symm)
theorem ar_below {w0 w : World} {X o : Nat} {u : Value} (h : Below X w0 w) : Below X w0 (w.setCell ⟨X, o, none⟩ u) := ⟨h.os, h.tape, h.output, by have := h.size; simpa [World.setCell] using this, fun k hk => (ar_other (by omega)).trans (h.block k hk)⟩
theorem Rws.setX {w : World} {X o : Nat} {vs : Vars} {mm nn ss u : Value} {N : List Int} {S : List (B × Nat)} (h : Rws w X vs mm nn ss N S) : Rws (w.setCell ⟨X, o, none⟩ u) X vs mm nn ss N S := h.same fun _ hk _ => ar_other (by omega)
theorem Rk.drew {w : World} {X : Nat} {vs : Vars} {vv mm nn ss : Value} {s : St} (h : Rk w X vs vv mm nn ss s) : Rk w.drew X vs vv mm nn ss s := ⟨h.blk, h.rws.same fun _ _ _ => rfl⟩
theorem ar_drew {w0 w : World} {X : Nat} (h : Below X w0 w) : Below X w0 w.drew := ⟨h.os, h.tape, h.output, h.size, h.block⟩
theorem ar_drewN (w : World) (X n : Nat) : Below X w (w.drewN n) := ⟨rfl, rfl, rfl, Nat.le_refl _, fun _ _ => rfl⟩
end Go.Proofs.YtlgbfhjbfolibaaDoor
