/-
  Proved: how fields lie in memory, while they are made and for whoever reads them. Conditions: as each says.
-/
import Derived.Test.YtfepkhlifpbkfaaDoorRdMem
import Derived.Test.YtfepkhlifpbkfaaDoorSpMath
import Derived.Test.YtfepkhlifpbkfaaDoorGlyphCode
import Derived.Lib.OthersKept
import Derived.Laws.OwnMore
namespace Go.Proofs.YtfepkhlifpbkfaaDoor
open Go Go.RowKit GlyphMath GlMath SpMath

def cC (x : Ch) : List Value := [.int .i32 x.1, .bool x.2]
theorem cE : Enc 2 cC := ⟨fun _ => rfl, fun x u hu => by simp [cC] at hu; rcases hu with rfl | rfl <;> rfl, by decide⟩
/-- A slice's value. -/
abbrev Sl := Option Addr × Nat × Nat
def slV (x : Sl) : Value := .slice x.1 x.2.1 x.2.2
def slC (x : Sl) : List Value := [slV x]
theorem slE : Enc 1 slC := ⟨fun _ => rfl, fun x u hu => by simp [slC] at hu; subst hu; rfl, by decide⟩
def rnC (x : Rn) : List Value := [.string x.text, .bool x.q, .bool x.s, .bool x.b]
theorem rnE : Enc 4 rnC := ⟨fun _ => rfl, fun x u hu => by simp [rnC] at hu; rcases hu with rfl | rfl | rfl | rfl <;> rfl, by decide⟩
theorem infoCh : (Tryd.prog.info? 48).map (fun i => (i.zero, i.size, i.bytes)) = some (some (.agg #[.int .i32 0, .bool false]), 2, 8) := by kernel_rfl
theorem infoRow : (Tryd.prog.info? 32).map (fun i => (i.zero, i.size, i.bytes)) = some (some (.slice none 0 0), 1, 24) := by kernel_rfl

/-- Rows of letters, for whoever reads them. -/
structure Rds (w : World) (v : Value) (L : List (List Ch)) : Prop where
  is : ∃ vs : List Sl, Rd 1 slC w v vs ∧ vs.length = L.length ∧ ∀ (k : Nat) (u : Sl) (l : List Ch), vs[k]? = some u → L[k]? = some l → Rd 2 cC w (slV u) l
theorem Rds.below {w w' : World} {v : Value} {L : List (List Ch)} (h : Rds w v L) (hb : Below w.heap.size w w') : Rds w' v L := by
  obtain ⟨vs, h1, h2, h3⟩ := h.is
  exact ⟨vs, h1.below hb (Nat.le_refl _), h2, fun k u l hu hl => (h3 k u l hu hl).below hb (Nat.le_refl _)⟩

section
variable {w w' : World}
theorem own_same {B e size n : Nat} {v : Value} {xs : List Value} (h : w.ownsRow B e size v n xs) (hk : ∀ g, v.ownBlock = some g → w'.heap[g]? = w.heap[g]?) : w'.ownsRow B e size v n xs := by
  refine ⟨h.1, ?_⟩
  rcases h.2 with hn | ⟨g, cap, cur, hv, hbg, hg, r⟩
  · exact .inl hn
  · exact .inr ⟨g, cap, cur, hv, hbg, (hk g (by rw [hv]; rfl)).trans hg, r⟩
theorem own_type {B e size n : Nat} {v : Value} {xs : List Value} (h : w.ownsRow B e size v n xs) {g : Nat} (hg : v.ownBlock = some g) : ∃ cur, w.heap[g]? = some (.cells cur e (0, 0)) := by
  rcases h.2 with ⟨hv, -⟩ | ⟨g', cap, cur, hv, hbg, hg', -⟩
  · rw [hv] at hg; cases hg
  · rw [hv] at hg
    have : g' = g := by simpa [Value.ownBlock] using hg
    subst this
    exact ⟨cur, hg'⟩
/-- Rows of two types are apart. -/
theorem own_ap {B B' e e' size size' n n' : Nat} {v v' : Value} {xs xs' : List Value} (h : w.ownsRow B e size v n xs) (h' : w.ownsRow B' e' size' v' n' xs') (he : e ≠ e') {g : Nat} (hg : v.ownBlock = some g) : v'.ownBlock ≠ some g := fun e1 => by
  obtain ⟨c1, h1⟩ := own_type h hg
  obtain ⟨c2, h2⟩ := own_type h' e1
  rw [h1] at h2
  cases h2
  exact he rfl
theorem own_off {B e size n X : Nat} {v : Value} {xs : List Value} {o : Obj} (h : w.ownsRow B e size v n xs) (hX : w.heap[X]? = some o) (ho : ∀ c fz, o ≠ .cells c e fz) {g : Nat} (hg : v.ownBlock = some g) : g ≠ X := fun e1 => by
  obtain ⟨c1, h1⟩ := own_type h hg
  rw [e1, hX] at h1
  cases h1
  exact ho _ _ rfl
theorem own_shape {B e size n : Nat} {v : Value} {xs : List Value} (h : w.ownsRow B e size v n xs) : ∃ p c, v = .slice p n c := by
  rcases h.2 with ⟨hv, h0⟩ | ⟨g, cap, cur, hv, -⟩
  · exact ⟨none, 0, by rw [hv, h0]⟩
  · exact ⟨_, cap, hv⟩

/-- A row of letters of the call's own. -/
def RowOf (w : World) (B : Nat) (v : Value) (l : List Ch) : Prop := w.ownsRow B 48 2 v l.length (l.flatMap cC)
structure Fs (w : World) (B : Nat) (v : Value) (vs : List Sl) (L : List (List Ch)) : Prop where
  row : w.ownsRow B 32 1 v vs.length (vs.flatMap slC)
  len : vs.length = L.length
  each : ∀ (k : Nat) (u : Sl) (l : List Ch), vs[k]? = some u → L[k]? = some l → RowOf w B (slV u) l
theorem Fs.rds {B : Nat} {v : Value} {vs : List Sl} {L : List (List Ch)} (h : Fs w B v vs L) : Rds w v L :=
  ⟨vs, Rd.of_own slE h.row, h.len, fun k u l hu hl => Rd.of_own cE (h.each k u l hu hl)⟩
/-- The cells of a struct of fields. -/
abbrev FdBlk (w : World) (X : Nat) (ve vl : Value) (b : Bool) : Prop := w.heap[X]? = some (.cells #[ve, vl, .bool b] 43 (0, 0))
structure StV (w : World) (B X : Nat) (ve vl : Value) (vs : List Sl) (f : Fld) : Prop where
  blk : FdBlk w X ve vl f.begun
  low : B ≤ X
  fs : Fs w B ve vs f.ended
  row : RowOf w B vl f.last
  ap : ∀ (k : Nat) (u : Sl), vs[k]? = some u → ∀ g, (slV u).ownBlock = some g → vl.ownBlock ≠ some g
def StF (w : World) (B X : Nat) (f : Fld) : Prop := ∃ ve vl vs, StV w B X ve vl vs f
theorem fd_cell {X : Nat} {ve vl : Value} {b : Bool} (h : FdBlk w X ve vl b) : w.cell? ⟨X, 0, none⟩ = some ve ∧ w.cell? ⟨X, 1, none⟩ = some vl ∧ w.cell? ⟨X, 2, none⟩ = some (.bool b) ∧ (∀ i, w.frozen? ⟨X, i, none⟩ = false) :=
  ⟨by rw [Lib.cell_of_heap h]; rfl, by rw [Lib.cell_of_heap h]; rfl, by rw [Lib.cell_of_heap h]; rfl, fun i => Lib.frozen_of_heap h i⟩
theorem StV.lt {B X : Nat} {ve vl : Value} {vs : List Sl} {f : Fld} (h : StV w B X ve vl vs f) : X < w.heap.size := (Array.getElem?_eq_some_iff.1 h.blk).1
/-- What is neither a row of letters, nor of rows, nor a struct of fields. -/
def Free (o : Obj) : Prop := ∀ c fz e, o = .cells c e fz → e ≠ 43 ∧ e ≠ 32 ∧ e ≠ 48
/-- Nothing else turns. -/
def Kp (w w' : World) : Prop := ∀ (k : Nat) (o : Obj), w.heap[k]? = some o → Free o → w'.heap[k]? = some o
theorem Kp.refl (w : World) : Kp w w := fun _ _ h _ => h
theorem Kp.trans {a b c : World} (h : Kp a b) (k : Kp b c) : Kp a c := fun i o hi ho => k i o (h i o hi ho) ho
theorem Kp.iter {s : ByteArray} {k p : Nat} (h : Kp w w') (hk : w.heap[k]? = some (.stringIter s p)) : w'.heap[k]? = some (.stringIter s p) := h k _ hk (fun c fz e h => by cases h)
theorem Kp.of {X : Nat} {ve vl : Value} {b : Bool} {v : Value} {B e size n : Nat} {xs : List Value} (hX : FdBlk w X ve vl b) (hv : w.ownsRow B e size v n xs) (he : e = 32 ∨ e = 48)
    (hk : ∀ k, k < w.heap.size → k ≠ X → v.ownBlock ≠ some k → w'.heap[k]? = w.heap[k]?) : Kp w w' := fun k o hko hf => by
  refine (hk k (Array.getElem?_eq_some_iff.1 hko).1 ?_ ?_).trans hko
  · intro e1
    rw [e1, hX] at hko
    cases hko
    exact (hf _ _ _ rfl).1 rfl
  · intro e1
    obtain ⟨c, hc⟩ := own_type hv e1
    rw [hc] at hko
    cases hko
    rcases he with rfl | rfl
    · exact (hf _ _ _ rfl).2.1 rfl
    · exact (hf _ _ _ rfl).2.2 rfl
/-- It stays where neither its own block nor its rows turn. -/
theorem StV.same {B X : Nat} {ve vl : Value} {vs : List Sl} {f : Fld} (h : StV w B X ve vl vs f) (hk : ∀ k, k < w.heap.size → B ≤ k → w'.heap[k]? = w.heap[k]?) : StV w' B X ve vl vs f where
  blk := (hk X h.lt h.low).trans h.blk
  low := h.low
  fs := ⟨own_same h.fs.row fun g hg => hk g (World.ownsRow.lt h.fs.row g hg).2 (World.ownsRow.lt h.fs.row g hg).1, h.fs.len, fun k u l hu hl => own_same (h.fs.each k u l hu hl) fun g hg => hk g (World.ownsRow.lt (h.fs.each k u l hu hl) g hg).2 (World.ownsRow.lt (h.fs.each k u l hu hl) g hg).1⟩
  row := own_same h.row fun g hg => hk g (World.ownsRow.lt h.row g hg).2 (World.ownsRow.lt h.row g hg).1
  ap := h.ap
/-- The field that was begun has ended. -/
theorem StV.fin {B X g cap : Nat} {ve : Value} {p : Option Addr} {c : Nat} {vs : List Sl} {f : Fld} (h : StV w B X ve (.slice p f.last.length c) vs f) (hb : f.begun = true)
    (hX : FdBlk w' X (.slice (some ⟨g, 0, none⟩) (vs.length + 1) cap) (.slice none 0 0) false) (hown : w'.ownsRow B 32 1 (.slice (some ⟨g, 0, none⟩) (vs.length + 1) cap) (vs.length + 1) (vs.flatMap slC ++ [.slice p f.last.length c]))
    (hk : ∀ k, k < w.heap.size → k ≠ X → ve.ownBlock ≠ some k → w'.heap[k]? = w.heap[k]?) : StF w' B X f.fin := by
  have ef : f.fin = ⟨f.ended ++ [f.last], [], false⟩ := by unfold Fld.fin; rw [if_pos hb]
  rw [ef]
  have old : ∀ (u : Value) (l : List Ch), RowOf w B u l → RowOf w' B u l := fun u l hu => own_same hu fun g hg => hk g (World.ownsRow.lt hu g hg).2 (own_off hu h.blk (fun c fz e => by cases e) hg) (own_ap hu h.fs.row (by decide) hg)
  refine ⟨_, _, vs ++ [(p, f.last.length, c)], hX, h.low, ⟨?_, by simp [h.fs.len], fun k u l hu hl => ?_⟩, World.ownsRow_nil _ _ _ _, fun k u hu g hg e => by cases e⟩
  · have e1 : (vs ++ [(p, f.last.length, c)]).length = vs.length + 1 := by simp
    rw [e1, List.flatMap_append]
    exact hown
  · rcases Nat.lt_or_ge k vs.length with h1 | h1
    · rw [List.getElem?_append_left h1] at hu
      rw [List.getElem?_append_left (by rw [← h.fs.len]; exact h1)] at hl
      exact old _ _ (h.fs.each k u l hu hl)
    · rw [List.getElem?_append_right h1] at hu
      rw [List.getElem?_append_right (by rw [← h.fs.len]; exact h1)] at hl
      obtain ⟨e1, e2⟩ : k - vs.length = 0 ∧ k - f.ended.length = 0 := by
        have h2 := (List.getElem?_eq_some_iff.1 hu).1
        have h3 := h.fs.len
        simp only [List.length_singleton] at h2
        omega
      rw [e1] at hu
      rw [e2] at hl
      simp only [List.getElem?_cons_zero, Option.some.injEq] at hu hl
      subst hu hl
      exact old _ _ h.row
/-- A letter has been put to the last one. -/
theorem StV.put {B X g cap : Nat} {ve vl : Value} {vs : List Sl} {f : Fld} {x : Ch} (h : StV w B X ve vl vs f)
    (hX : FdBlk w' X ve (.slice (some ⟨g, 0, none⟩) (f.last.length + 1) cap) true) (hown : w'.ownsRow B 48 2 (.slice (some ⟨g, 0, none⟩) (f.last.length + 1) cap) (f.last.length + 1) (f.last.flatMap cC ++ [.int .i32 x.1, .bool x.2]))
    (hk : ∀ k, k < w.heap.size → k ≠ X → vl.ownBlock ≠ some k → w'.heap[k]? = w.heap[k]?) (hg : vl.ownBlock = some g ∨ w.heap.size ≤ g) : StF w' B X ⟨f.ended, f.last ++ [x], true⟩ := by
  have each : ∀ (k : Nat) (u : Sl), vs[k]? = some u → ∃ l, f.ended[k]? = some l ∧ RowOf w B (slV u) l := fun k u hu => by
    have h1 := (List.getElem?_eq_some_iff.1 hu).1
    obtain ⟨l, hl⟩ : ∃ l, f.ended[k]? = some l := ⟨_, List.getElem?_eq_getElem (by rw [← h.fs.len]; exact h1)⟩
    exact ⟨l, hl, h.fs.each k u l hu hl⟩
  refine ⟨_, _, vs, hX, h.low, ⟨own_same h.fs.row fun g hg => hk g (World.ownsRow.lt h.fs.row g hg).2 (own_off h.fs.row h.blk (fun c fz e => by cases e) hg) (own_ap h.fs.row h.row (by decide) hg), h.fs.len, fun k u l hu hl => ?_⟩, ?_, fun k u hu g' hg' e => ?_⟩
  · have hr := h.fs.each k u l hu hl
    exact own_same hr fun g hg => hk g (World.ownsRow.lt hr g hg).2 (own_off hr h.blk (fun c fz e => by cases e) hg) (h.ap k u hu g hg)
  · show w'.ownsRow _ _ _ _ (f.last ++ [x]).length _
    have e1 : (f.last ++ [x]).length = f.last.length + 1 := by simp
    rw [e1, List.flatMap_append]
    exact hown
  · have e : g = g' := by simpa [Value.ownBlock] using e
    subst e
    obtain ⟨l, -, hr⟩ := each k u hu
    rcases hg with hg | hg
    · exact h.ap k u hu g hg' hg
    · have := (World.ownsRow.lt hr g hg').2; omega
end
end Go.Proofs.YtfepkhlifpbkfaaDoor
