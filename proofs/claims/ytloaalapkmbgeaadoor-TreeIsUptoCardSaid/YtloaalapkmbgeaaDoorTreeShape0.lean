/-
  Proved: contracts of tree's Reserved, and of what a shape asks of a node. Conditions: none.
-/
import Derived.Test.YtloaalapkmbgeaaDoorTreeAll
namespace Go.Proofs.YtloaalapkmbgeaaDoor
open Go Go.RowKit GlyphMath LexMath TreeMath

set_option maxHeartbeats 1000000 in
theorem reserved_any (l : List UInt8) (w : World) :
    Calls Tryd.prog 11 #[.string (T l)] w fun e w' => e = .returned (.bool (reservedT l)) ∧ w = w' := by
  obtain ⟨o, ho⟩ : ∃ o, T l = o := ⟨_, rfl⟩
  have hl : o.toList = l := by rw [← ho, Lib.toList_data]
  rw [ho, ← hl]
  clear ho hl
  obtain ⟨R, hR⟩ : ∃ R, reservedT o.toList = R := ⟨_, rfl⟩
  have HR := Lib.hid hR
  rw [hR]
  clear hR
  go_enter Tryd.func11, Tryd.ntmps11
  go_wp2_with fail
  all_goals
    go_ret
    refine ⟨ret_bool ?_, rfl⟩
    rw [← HR.out]
    first
      | (simp only [reservedT, reservedL, List.contains_cons, List.contains_nil, Bool.or_false, Bool.true_or, Bool.false_or, *]; done)
      | (simp_all; done)

/-- How many there may be. -/
def countV (a b : Int) : Value := .agg #[.int .i64 a, .int .i64 b]
theorem has_any (a b n : Int) (w : World) :
    Calls Tryd.prog 72 #[countV a b, .int .i64 n] w fun e w' => e = .returned (.bool (hasT a b n)) ∧ Below w.heap.size w w' := by
  have HB := Lib.hid (fun o => below_one w o)
  unfold countV
  by_cases h : a ≤ n
  · have HR := Lib.hid (show hasT a b n = decide (n ≤ b) by unfold hasT; rw [decide_eq_true h, Bool.true_and])
    rw [HR.out]
    go_enter Tryd.func72, Tryd.ntmps72
    go_wp2_with fail
    go_ret
    exact ⟨rfl, HB.out _⟩
  · have HR := Lib.hid (show hasT a b n = false by unfold hasT; rw [decide_eq_false h, Bool.false_and])
    rw [HR.out]
    go_enter Tryd.func72, Tryd.ntmps72
    go_wp2_with fail
    go_ret
    exact ⟨rfl, HB.out _⟩

/-- A shape that was handed over. -/
def shapeV (s : Sh) : Value := .agg #[txt s.op, .int .i64 s.k0, .int .i64 s.k1, .int .i64 s.w0, .int .i64 s.w1, .bool s.name, .bool s.pats, .bool s.assigns, .bool s.redirs]
theorem nat_beq (a b : Nat) : ((a : Int) == (b : Int)) = (a == b) := by
  by_cases h : a = b
  · subst h; simp
  · have h1 : (a == b) = false := by simpa using h
    rw [h1]
    exact int_ne (by omega)

/-- The rows of a node. -/
def NV (n : Nd) (kp wp pp ap rp : Option Addr) (kc wc pc ac rc : Nat) : Value := nodeV n (.slice kp n.kids.length kc) (.slice wp n.words.length wc) (.slice pp n.pats.length pc) (.slice ap n.assigns.length ac) (.slice rp n.redirs.length rc)

/-- Two variables side by side. -/
def SC (W : World) (b : Nat) (cs ds : List Value) : Prop := (∀ i u, cs[i]? = some u → W.cell? ⟨b, i, none⟩ = some u) ∧ (∀ i u, ds[i]? = some u → W.cell? ⟨b + 1, i, none⟩ = some u)
theorem SC.below {w w' : World} {b : Nat} {cs ds : List Value} (h : SC w b cs ds) (hb : Below w.heap.size w w') : SC w' b cs ds := ⟨fun i u hu => cell_below (h.1 i u hu) hb, fun i u hu => cell_below (h.2 i u hu) hb⟩
theorem SC.new (w : World) (cs ds : List Value) (t s : TypeId) : SC ((w.alloc (.cells cs.toArray t)).alloc (.cells ds.toArray s)) w.heap.size cs ds := by
  have h1 := heap_alloc_new w (.cells cs.toArray t)
  have h2 := heap_alloc_new (w.alloc (.cells cs.toArray t)) (.cells ds.toArray s)
  refine ⟨fun i u hu => ?_, fun i u hu => ?_⟩
  · refine cell_below ?_ (below_one _ _)
    rw [cell_plain h1]
    simpa using hu
  · rw [World.size_alloc] at h2
    rw [cell_plain h2]
    simpa using hu
end Go.Proofs.YtloaalapkmbgeaaDoor
