/-
  Proved: laws for the walk: a whole struct into a variable that was made last; a copy in terms of cells; the sizes of the disk's types. No conditions but those that each says.
-/
import Derived.Test.YtilplpjdbkipoaaGreatDoorDiskMem
import Derived.Deep.WholeRow
import Derived.Deep.RegionHeld3
import Derived.WalkKit
namespace Go.Proofs.YtilplpjdbkipoaaGreatDoor
open Go Go.RowKit DiskMath NetMem

section
variable {P : Program}

/-- A whole struct or array into the variable that was made last. -/
theorem wpList_store_new {ops : Array Oper} {rest : List Oper} {op : Oper} {a : Act} {w : World} {Q : Exit → Act → World → Prop} (hgd : op.guard = none) (ty : TypeId) (x y : Operand) (ho : op.op = .store ty x y)
    (w0 : World) (c c' : Array Value) (hw : w = w0.alloc (.cells c ty)) (hx : a.eval x = .pointer (some ⟨w0.heap.size, 0, none⟩)) (hy : a.eval y = .agg c')
    (hi : (P.info? ty).map (·.size) = some c'.size) (hs : c.size = c'.size) (h1 : c'.all (·.oneCell') = true)
    (h : wpList P ops Q rest (a.put op.dst undef) (w0.alloc (.cells c' ty))) : wpList P ops Q (op :: rest) a w :=
  wpList_plain hgd fun K hK => by
    subst hw
    unfold Oper.wp execOp
    simp only [ho, hx, hy, Instr.storeAt, Instr.sureAddr, Sem.run_bind, Sem.run_pure, Result.andThen_ok, run_storeVar_new w0 ty c c' hi hs h1]
    exact hK _ _ h

/-- copy, cell by cell, as a step of a region that draws. -/
theorem step_copy_cells {ops : Array Oper} {o : Oper} {a : Act} {w : World} {K : Act → World → Prop} {Q : Exit → Act → World → Prop} {E : Prop} (hgd : o.guard = none) (d s : Operand) (dT sT : TypeId)
    (ho : o.op = .call { callee := .builtin .copy, args := #[d, s], argTypes := #[dT, sT] }) (elem : TypeId) (hu : P.underlying dT = some (.slice elem)) (hsz : (P.info? elem).map (·.size) = some 1)
    (b off dLen dCap : Nat) (ad : Addr) (sLen sCap : Nat) (hd : a.eval d = .slice (some ⟨b, off, none⟩) dLen dCap) (hs : a.eval s = .slice (some ad) sLen sCap)
    (cs : List Value) (hn : cs.length = Nat.min sLen dLen) (hsrc : ∀ j v, cs[j]? = some v → w.cell? (ad.add j) = some v) (ht : w.there b off cs.length) (h1 : ∀ v ∈ cs, v.oneCell' = true)
    (h : K (a.put o.dst (goInt cs.length)) (w.setCells b off cs)) :
    if Region.wanted o (yielded ops a.tmps) = true then Oper.wp P o a w K Q else E := by
  have hw : Region.wanted o (yielded ops a.tmps) = true := by simp [Region.wanted, hgd]
  rw [if_pos hw]
  have hrun := run_copy_cells (P := P) w dT sT o.type elem b off dLen dCap ad sLen sCap cs hu hsz hn hsrc (fun j hj => (ht j hj).1) (fun j hj => (ht j hj).2) h1
  unfold Oper.wp
  simp [execOp, ho, resolve, invoke, builtin, hd, hs, hrun, Result.andThen]
  exact h
theorem wpList_copy_cells {ops : Array Oper} {rest : List Oper} {o : Oper} {a : Act} {w : World} {Q : Exit → Act → World → Prop} (hgd : o.guard = none) (d s : Operand) (dT sT : TypeId)
    (ho : o.op = .call { callee := .builtin .copy, args := #[d, s], argTypes := #[dT, sT] }) (elem : TypeId) (hu : P.underlying dT = some (.slice elem)) (hsz : (P.info? elem).map (·.size) = some 1)
    (b off dLen dCap : Nat) (ad : Addr) (sLen sCap : Nat) (hd : a.eval d = .slice (some ⟨b, off, none⟩) dLen dCap) (hs : a.eval s = .slice (some ad) sLen sCap)
    (cs : List Value) (hn : cs.length = Nat.min sLen dLen) (hsrc : ∀ j v, cs[j]? = some v → w.cell? (ad.add j) = some v) (ht : w.there b off cs.length) (h1 : ∀ v ∈ cs, v.oneCell' = true)
    (h : wpList P ops Q rest (a.put o.dst (goInt cs.length)) (w.setCells b off cs)) : wpList P ops Q (o :: rest) a w :=
  wpList_plain hgd fun K hK => by
    have hrun := run_copy_cells (P := P) w dT sT o.type elem b off dLen dCap ad sLen sCap cs hu hsz hn hsrc (fun j hj => (ht j hj).1) (fun j hj => (ht j hj).2) h1
    unfold Oper.wp
    simp [execOp, ho, resolve, invoke, builtin, hd, hs, hrun, Result.andThen]
    exact hK _ _ h
end

/-- The cells of a variable of the types write and content, as it is made. -/
def zeroW : Array Value := #[.int .i64 0, .int .u8 0, .int .u8 0, .int .u8 0, .int .u8 0, .int .u8 0, .int .u8 0, .int .u8 0, .int .u8 0, .int .u8 0, .int .u8 0, .int .u8 0, .int .u8 0, .int .u8 0, .int .u8 0, .int .u8 0, .int .u8 0]
def zeroC : Array Value := #[.int .u8 0, .int .u8 0, .int .u8 0, .int .u8 0, .int .u8 0, .int .u8 0, .int .u8 0, .int .u8 0, .int .u8 0, .int .u8 0, .int .u8 0, .int .u8 0, .int .u8 0, .int .u8 0, .int .u8 0, .int .u8 0]
theorem sizeContent : (Tryz.prog.info? 87).map (·.size) = some 16 := by kernel_rfl
theorem sizeWrite : (Tryz.prog.info? 89).map (·.size) = some 17 := by kernel_rfl
theorem sizeByte : (Tryz.prog.info? 5).map (·.size) = some 1 := by kernel_rfl

theorem all_bytes (l : List UInt8) : (Lib.byteCells l).toArray.all (·.oneCell') = true := all_oneCell_toArray (oneCell_bytes l)
theorem all_wcells (x : Nat × List UInt8) : (wcells x).toArray.all (·.oneCell') = true := all_oneCell_toArray (oneCell_wcells x)

/-- What is pending, as it is read: the write j. -/
theorem DiskM.pend_at {w : World} {g s : Nat} {pv lv : Value} {d : Dk} (h : DiskM w g s pv lv d) : ∃ a c, pv = .slice a d.p.length c ∧ d.p.length ≤ maxLen ∧
    ∀ j (hj : j < d.p.length), ∃ b, a = some ⟨b, 0, none⟩ ∧ b ≠ g ∧ b ≠ s ∧ b < w.heap.size ∧ w.rangeAt b (j * 17) (wcells d.p[j]) := by
  obtain ⟨h1, h2⟩ := h.pend
  rcases id h2 with ⟨hv, h0⟩ | ⟨q, cap, cur, hv, -, hq, hl, hm, -⟩
  · exact ⟨none, 0, by rw [hv, h0], by rw [h0]; exact Nat.zero_le _, fun j hj => by omega⟩
  · refine ⟨some ⟨q, 0, none⟩, cap, hv, by omega, fun j hj => ⟨q, rfl, ?_, ?_, (Array.getElem?_eq_some_iff.1 hq).1, fun k v hk => ?_⟩⟩
    · intro e; subst e; exact h.pg (by rw [hv]; rfl)
    · intro e; subst e; exact h.ps (by rw [hv]; rfl)
    · have := World.ownsRow.cells ⟨h1, h2⟩ (g := q) (by rw [hv]; rfl) (j * 17 + k) v (pcells_at (fun x hx => (h.pok x hx).2) j hj k v hk)
      rwa [Lib.add_plain, Nat.zero_add] at this
end Go.Proofs.YtilplpjdbkipoaaGreatDoor
