/-
  Proved: a Reader stays as it was while another one is read, and while memory is made. Conditions: none.
-/
import Derived.Test.YtilplpjdbkipoaaGreatDoorNetCalls
import Derived.Lib.SlBytesConst
namespace Go.Proofs.YtilplpjdbkipoaaGreatDoor.NetP
open Go Go.Shelf Go.RowKit NetMath NetMem

/-- A slice that a literal has just made. -/
theorem Row.lit (w : World) (e : TypeId) (l : List UInt8) (cs : Array Value) (fr : Nat × Nat) (hcs : cs = (Lib.byteCells l).toArray) (n : Nat) (hn : n = l.length) (hm : n ≤ 1000) : Row (w.alloc (.cells cs e fr)) (.slice (some ⟨w.heap.size, 0, none⟩) n n) l := by
  subst hn
  subst hcs
  refine ⟨_, l.length, rfl, Nat.le_refl _, by unfold maxLen; omega, fun _ => ⟨_, 0, rfl, fun i hi => ?_⟩⟩
  rw [Nat.zero_add, World.cell?_alloc_mark w _ e fr]
  simpa using bc_at l i hi

theorem Rd.below {T : TypeId} {w w' : World} {r : Nat} {l : List UInt8} (h : Rd T w r l) (hb : Below w.heap.size w w') : Rd T w' r l := by
  obtain ⟨v, hr, hv⟩ := h
  exact ⟨v, (hb.block r (Rd.cell hr).2.2).trans hr, hv.below hb⟩

theorem Rd.lt {T : TypeId} {w : World} {r : Nat} {l : List UInt8} (h : Rd T w r l) : r < w.heap.size := by
  obtain ⟨v, hr, hv⟩ := h
  exact (Rd.cell hr).2.2

theorem Row.kept_rd {T : TypeId} {w w' : World} {q : Nat} {m : List UInt8} (hq : Rd T w q m) (hk : Kept q w w') {v : Value} {l : List UInt8} (h : Row w v l) : Row w' v l := by
  obtain ⟨v', hr, hv⟩ := hq
  obtain ⟨p, cap, rfl, -⟩ := id hv
  exact Row.kept hr hk h

theorem Rd.kept {T T' : TypeId} {w w' : World} {r q : Nat} {l m : List UInt8} (h : Rd T w r l) (hq : Rd T' w q m) (hne : r ≠ q) (hk : Kept q w w') : Rd T w' r l := by
  obtain ⟨v, hr, hv⟩ := h
  exact ⟨v, (hk.block r (Rd.cell hr).2.2 (by simpa using hne)).trans hr, Row.kept_rd hq hk hv⟩
end Go.Proofs.YtilplpjdbkipoaaGreatDoor.NetP
