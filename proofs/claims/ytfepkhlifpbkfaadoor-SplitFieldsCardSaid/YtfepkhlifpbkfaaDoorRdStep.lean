/-
  Proved: an append of what any row yields, at a step of a region that draws its order. Conditions: as it says.
-/
import Derived.Test.YtfepkhlifpbkfaaDoorRdMem
import Derived.Deep.RegionLaw
namespace Go.Proofs.YtfepkhlifpbkfaaDoor
open Go Go.RowKit

section
variable {α : Type} {sz : Nat} {enc : α → List Value}
/-- At a step of a region that draws its order. -/
theorem step_append_rd {P : Program} (w : World) {ops : Array Oper} {o : Oper} {a : Act} {K : Act → World → Prop} {Q : Exit → Act → World → Prop} {F : Prop} (hgd : o.guard = none) (s x : Operand) (t : TypeId)
    (ho : o.op = .call { callee := .builtin .append, args := #[s, x], argTypes := #[t, t] })
    (e : TypeId) (i : TypeInfo) (z : Value) (bytes : Nat) (ht : P.underlying t = some (.slice e)) (hi : P.info? e = some i) (hz : i.zero = some z) (hs : i.size = sz) (hb : i.bytes = bytes) (hzs : z.cells.size = sz) (E : Enc sz enc)
    (B : Nat) (v : Value) (l m : List α) (hsv : a.eval s = v) (hown : w.ownsRow B e sz v l.length (l.flatMap enc)) (xv : Value) (hxv : a.eval x = xv) (hx : Rd sz enc w xv m) (hlim : (l.length + m.length) * bytes ≤ 140737488355328) (hlen : l.length + m.length ≤ maxLen) (hB : B ≤ w.heap.size) (J : List α) (hJ : l ++ m = J)
    (h : ∀ v' w', w'.ownsRow B e sz v' J.length (J.flatMap enc) → w.grownBy w' v.ownBlock → K (a.put o.dst v') w') :
    if Region.wanted o (yielded ops a.tmps) = true then Oper.wp P o a w K Q else F := by
  subst hJ
  have hw : Region.wanted o (yielded ops a.tmps) = true := by simp [Region.wanted, hgd]
  rw [if_pos hw]
  obtain ⟨v', w', hr, h2, h3⟩ := run_append_src (P := P) w t t o.type e i z bytes ht hi hz hs hb hzs E B v l m hown xv hx rfl hlim hlen hB
  unfold Oper.wp execOp
  simp only [ho, resolve, invoke, builtin, Sem.run_bind, Sem.run_pure, Result.andThen_ok, List.map_toArray, List.map_cons, List.map_nil, hsv, hxv, hr]
  exact h v' w' h2 h3
end
end Go.Proofs.YtfepkhlifpbkfaaDoor
