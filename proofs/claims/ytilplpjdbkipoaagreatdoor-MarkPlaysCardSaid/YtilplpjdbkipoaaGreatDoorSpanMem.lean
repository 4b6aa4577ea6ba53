/-
  Proved: how a disk stays while blocks that are no cells turn; rows beside a disk; a copy inside a fence. No conditions but those that each says.
-/
import Derived.Test.YtilplpjdbkipoaaGreatDoorDiskApi
import Derived.Test.YtilplpjdbkipoaaGreatDoorSpanIter
namespace Go.Proofs.YtilplpjdbkipoaaGreatDoor
open Go Go.RowKit DiskMath NetMem SpanMath

theorem Laid.cells {w : World} {k : Nat} (h : Laid w k) {o : Obj} (ho : w.heap[k]? = some o) : o.isCells = true := by
  obtain ⟨cs, t, fr, h⟩ := h
  rw [h] at ho
  cases ho
  rfl
theorem laid_row {w : World} {B : Nat} {e : TypeId} {size : Nat} {v : Value} {n : Nat} {xs : List Value} (h : w.ownsRow B e size v n xs) {k : Nat} (hk : v.ownBlock = some k) : Laid w k := by
  rcases h.2 with ⟨rfl, -⟩ | ⟨g, cap, cur, rfl, -, hg, -⟩
  · exact nil_own hk
  · obtain rfl : g = k := by simpa [Value.ownBlock] using hk
    exact ⟨_, _, _, hg⟩
/-- A disk's blocks are cells. -/
theorem DiskM.laid {w : World} {g s : Nat} {pv lv : Value} {d : Dk} (h : DiskM w g s pv lv d) {k : Nat} (hk : Blk g s pv lv k) : Laid w k := by
  rcases hk with rfl | rfl | hk | hk
  · exact ⟨_, _, _, h.head⟩
  · exact h.secs.2.2.2.2
  · exact laid_row h.pend hk
  · exact laid_row h.left hk
/-- A disk, and no block of D but its own. -/
theorem DiskAt.tight {w : World} {D : Nat → Prop} {p : Value} {d : Dk} (h : DiskAt w D p d) : ∃ E, DiskAt w E p d ∧ (∀ k, E k → D k) ∧ ∀ k, E k → Laid w k := by
  obtain ⟨g, s, pv, lv, rfl, hm, hD, -⟩ := h
  exact ⟨Blk g s pv lv, ⟨g, s, pv, lv, rfl, hm, fun _ h => h, fun k hk => hm.lt hk⟩, hD, fun k hk => hm.laid hk⟩
/-- It stays where a block is turned that is no cells. -/
theorem DiskAt.grown {w w' : World} {D : Nat → Prop} {p : Value} {d : Dk} {row : Option Nat} (h : DiskAt w D p d) (hg : w.grownBy w' row) (hr : ∀ r, row = some r → ∃ o : Obj, w.heap[r]? = some o ∧ o.isCells = false) : DiskAt w' D p d := by
  obtain ⟨g, s, pv, lv, rfl, hm, hD, hlt⟩ := h
  refine ⟨g, s, pv, lv, rfl, hm.keep (fun k hk => hg.block k (hm.lt hk) fun e => ?_) hg.size, hD, fun k hk => Nat.lt_of_lt_of_le (hlt k hk) hg.size⟩
  obtain ⟨o, ho, hc⟩ := hr k e.symm
  rw [(hm.laid hk).cells ho] at hc
  cases hc
theorem DiskAt.lt {w : World} {D : Nat → Prop} {p : Value} {d : Dk} (h : DiskAt w D p d) {k : Nat} (hk : D k) : k < w.heap.size := by
  obtain ⟨g, s, pv, lv, -, -, -, hlt⟩ := h
  exact hlt k hk
theorem Kept.others {D : Nat → Prop} {w w' : World} (h : Kept D w w') (hD : ∀ k, D k → Laid w k) : KeepsOthers w w' :=
  ⟨h.size, fun k o hk hc => (h.block k (Array.getElem?_eq_some_iff.1 hk).1 fun hd => by rw [(hD k hd).cells hk] at hc; cases hc).trans hk⟩
theorem KeepsOthers.setCells (b : Nat) : ∀ (vs : List Value) (o : Nat) (W : World), KeepsOthers W (W.setCells b o vs)
  | [], _, W => KeepsOthers.refl W
  | v :: r, o, W => (KeepsOthers.setCell W ⟨b, o, none⟩ v).trans (KeepsOthers.setCells b r (o + 1) _)

/-! ### Steps of a disk, one behind the other -/
theorem Step.trans {D : Nat → Prop} {w w1 w2 : World} {p : Value} {d1 d2 : Dk} (h : Step D w w1 p d1) (k : ∀ E, DiskAt w1 E p d1 → (∀ k, E k → D k ∨ w.heap.size ≤ k) → Step E w1 w2 p d2) : Step D w w2 p d2 := by
  obtain ⟨E, hd, hk, hE⟩ := h
  obtain ⟨E', hd', hk', hE'⟩ := k E hd hE
  exact ⟨E', hd', hk.trans hk' hE, fun i hi => (hE' i hi).elim (hE i) fun h => .inr (Nat.le_trans hk.size h)⟩
theorem Step.below {D : Nat → Prop} {w w1 w2 : World} {p : Value} {d : Dk} (h : Step D w w1 p d) (hb : Below w1.heap.size w1 w2) : Step D w w2 p d :=
  h.trans fun E hd _ => ⟨E, hd.below hb, Kept.of_below hb, fun _ h => .inl h⟩
theorem Step.ahead {D : Nat → Prop} {w w1 w2 : World} {p : Value} {d : Dk} (hb : Below w.heap.size w w1) (h : Step D w1 w2 p d) : Step D w w2 p d := by
  obtain ⟨E, hd, hk, hE⟩ := h
  exact ⟨E, hd, (Kept.of_below hb).trans hk fun i hi => .inl hi, fun i hi => (hE i hi).imp id fun h => Nat.le_trans hb.size h⟩

/-! ### A row beside a disk -/
/-- Bytes that can be read, and lie in no block of D. -/
def RowO (w : World) (D : Nat → Prop) (v : Value) (l : List UInt8) : Prop := Row w v l ∧ ∀ b o n c, v = .slice (some ⟨b, o, none⟩) n c → 0 < l.length → ¬ D b
theorem row_cell {w : World} {b o n c : Nat} {l : List UInt8} (h : Row w (.slice (some ⟨b, o, none⟩) n c) l) (h0 : 0 < l.length) : b < w.heap.size := by
  obtain ⟨-, h1, -, -⟩ := Row.nums h
  have := Row.range h (by omega) 0 h0
  exact World.block_lt_of_cell? w _ this
theorem RowO.step {w w' : World} {D E : Nat → Prop} {v : Value} {l : List UInt8} (h : RowO w D v l) (hk : Kept D w w') (hE : ∀ k, E k → D k ∨ w.heap.size ≤ k) : RowO w' E v l := by
  obtain ⟨hr, hn⟩ := h
  have hr0 := hr
  refine ⟨?_, fun b o n c hv h0 hd => ?_⟩
  · obtain ⟨p, cap, rfl, h1, h2, h3⟩ := hr
    refine ⟨p, cap, rfl, h1, h2, fun h0 => ?_⟩
    obtain ⟨b, o, rfl, hc⟩ := h3 h0
    exact ⟨b, o, rfl, fun i hi => hk.cell (hc i hi) (hn b o _ _ rfl (by omega))⟩
  · subst hv
    rcases hE b hd with h | h
    · exact hn b o n c rfl h0 h
    · have := row_cell hr0 h0; omega
theorem RowO.below {w w' : World} {D : Nat → Prop} {v : Value} {l : List UInt8} (h : RowO w D v l) (hb : Below w.heap.size w w') : RowO w' D v l := ⟨h.1.below hb, h.2⟩
theorem RowO.mono {w : World} {D E : Nat → Prop} {v : Value} {l : List UInt8} (h : RowO w D v l) (hE : ∀ k, E k → D k) : RowO w E v l := ⟨h.1, fun b o n c hv h0 he => h.2 b o n c hv h0 (hE b he)⟩

/-- copy inside a fence, cell by cell. -/
theorem wpListIn_copy_cells {F : Fence} {n : Nat} {P : Program} {ops : Array Oper} {rest : List Oper} {o : Oper} {a : Act} {w : World} {Q : Exit → Act → World → Prop} (hgd : o.guard = none) (d s : Operand) (dT sT : TypeId)
    (ho : o.op = .call { callee := .builtin .copy, args := #[d, s], argTypes := #[dT, sT] }) (elem : TypeId) (hu : P.underlying dT = some (.slice elem)) (hsz : (P.info? elem).map (·.size) = some 1)
    (b off dLen dCap : Nat) (ad : Addr) (sLen sCap : Nat) (hd : a.eval d = .slice (some ⟨b, off, none⟩) dLen dCap) (hs : a.eval s = .slice (some ad) sLen sCap)
    (cs : List Value) (hn : cs.length = Nat.min sLen dLen) (hsrc : ∀ j v, cs[j]? = some v → w.cell? (ad.add j) = some v) (ht : w.there b off cs.length) (h1 : ∀ v ∈ cs, v.oneCell' = true)
    (h : wpListIn F n P ops Q rest (a.put o.dst (goInt cs.length)) (w.setCells b off cs)) : wpListIn F n P ops Q (o :: rest) a w := by
  refine wpListIn_plain hgd fun K hK' => ?_
  have hrun := run_copy_cells (P := P) w dT sT o.type elem b off dLen dCap ad sLen sCap cs hu hsz hn hsrc (fun j hj => (ht j hj).1) (fun j hj => (ht j hj).2) h1
  unfold Oper.wpIn
  refine ⟨?_, ?_⟩
  · simp [Oper.about, ho, resolve, Target.leads, Sem.run_pure]
  · rw [Oper.semAt_plain F _ _ (by rw [ho]; intro c hc'; cases hc')]
    simp [execOp, ho, resolve, invoke, builtin, hd, hs, hrun, Result.andThen]
    exact hK' _ _ h

/-! ### A sector that is filled up with noughts -/
theorem zeros16 : madeCells #[Value.int .u8 0] 16 = #[.int .u8 0, .int .u8 0, .int .u8 0, .int .u8 0, .int .u8 0, .int .u8 0, .int .u8 0, .int .u8 0, .int .u8 0, .int .u8 0, .int .u8 0, .int .u8 0, .int .u8 0, .int .u8 0, .int .u8 0, .int .u8 0] := by kernel_rfl
/-- What a copy into a new array leaves. -/
theorem padded_own (w : World) (e : TypeId) (l : List UInt8) : NetMem.Own ((w.alloc (.cells (madeCells #[.int .u8 0] 16) e)).setCells w.heap.size 0 (Lib.byteCells (l.take 16))) w.heap.size (.slice (some ⟨w.heap.size, 0, none⟩) 16 16) (pad l) := by
  have hz : ∀ j, j < 16 → (madeCells #[Value.int .u8 0] 16)[j]? = some (.int .u8 0) := fun j hj => by
    simp [madeCells, hj, Nat.mod_one]
  have hs := setCells_same w.heap.size (Lib.byteCells (l.take 16)) 0 (w.alloc (.cells (madeCells #[.int .u8 0] 16) e))
  have hin := World.cell?_setCells_in w.heap.size (Lib.byteCells (l.take 16)) 0 (w.alloc (.cells (madeCells #[.int .u8 0] 16) e)) (fun j hj => by
    rw [bl, List.length_take] at hj
    rw [new_cell, Nat.zero_add, hz j (by omega)]; rfl)
  have hout : ∀ j, (l.take 16).length ≤ j → ((w.alloc (.cells (madeCells #[.int .u8 0] 16) e)).setCells w.heap.size 0 (Lib.byteCells (l.take 16))).cell? ⟨w.heap.size, j, none⟩ = (w.alloc (.cells (madeCells #[.int .u8 0] 16) e)).cell? ⟨w.heap.size, j, none⟩ := fun j hj =>
    World.cell?_setCells_out _ _ _ _ ⟨w.heap.size, j, none⟩ (fun _ _ => .inr (by rw [bl]; show 0 + (l.take 16).length ≤ j; omega))
  have hall : ∀ j (h : j < (pad l).length), ((w.alloc (.cells (madeCells #[.int .u8 0] 16) e)).setCells w.heap.size 0 (Lib.byteCells (l.take 16))).cell? ⟨w.heap.size, j, none⟩ = some (.int .u8 ((pad l)[j].toNat : Int)) := fun j h => by
    have h16 : j < 16 := by rw [pad_length] at h; exact h
    rcases Nat.lt_or_ge j (l.take 16).length with hj | hj
    · have := hin j (by rw [bl]; exact hj)
      rw [Nat.zero_add] at this
      rw [this]
      simp only [pad, List.getElem_append_left hj, Lib.byteCells, List.getElem_map]
    · rw [hout j hj, new_cell, hz j h16]
      simp only [pad, List.getElem_append_right hj, List.getElem_replicate]
      rfl
  refine .inr ⟨w.heap.size, 16, by rw [pad_length], Nat.le_refl _, by rw [hs.2.2.2.1]; simp, by rw [pad_length]; exact Nat.le_refl _, by unfold maxLen; omega, fun j hj => ⟨?_, ?_⟩, hall⟩
  · rw [hall j (by rw [pad_length]; exact hj)]; rfl
  · rw [World.frozen?_setCells, new_free]
end Go.Proofs.YtilplpjdbkipoaaGreatDoor
