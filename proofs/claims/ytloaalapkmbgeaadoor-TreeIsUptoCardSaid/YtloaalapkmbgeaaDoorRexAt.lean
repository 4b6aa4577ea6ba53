/-
  Proved: the statements' own lexer in memory; its calls fail and at. Conditions: it lies in memory.
-/
import Derived.Test.YtloaalapkmbgeaaDoorLexCore
import Derived.Test.YtloaalapkmbgeaaDoorGlyphRefN
import Derived.Test.YtloaalapkmbgeaaDoorRexMath
import Derived.Deep.QuietTactic
import Derived.BigQuiet
import Derived.LoopTactic
namespace Go.Proofs.YtloaalapkmbgeaaDoor
open Go Go.RowKit GlyphMath LexMath

/-- The library's two tables lie as they should, ahead of block X. -/
structure TabsX (w : World) (X : Nat) : Prop where
  tabs : Tabs w
  l3 : 1 < X
  l4 : 2 < X
theorem Tabs.kept {D : Nat → Prop} {w w' : World} (h : Tabs w) (hk : Kept D w w') (h3 : ¬ D 1) (h4 : ¬ D 2) : Tabs w' :=
  ⟨fun c hc => hk.cell (h.1 c hc) h3, fun i hi => ⟨hk.cell (h.2 i hi).1 h4, hk.cell (h.2 i hi).2 h4⟩⟩
theorem TabsX.kept {D : Nat → Prop} {w w' : World} {X : Nat} (h : TabsX w X) (hk : Kept D w w') (hD : ∀ k, k < X → ¬ D k) : TabsX w' X :=
  ⟨h.tabs.kept hk (hD _ h.l3) (hD _ h.l4), h.l3, h.l4⟩
/-- The lexer lies in block X: a text, a place, an error. -/
structure Lx (w : World) (X : Nat) (s : ByteArray) (i e : Int) : Prop where
  blk : w.heap[X]? = some (.cells #[.string s, .int .i64 i, .int .i64 e] 58 (0, 0))
  tabs : TabsX w X
theorem Lx.c0 {w : World} {X : Nat} {s : ByteArray} {i e : Int} (h : Lx w X s i e) : w.cell? ⟨X, 0, none⟩ = some (.string s) := by rw [cell_plain h.blk]; rfl
theorem Lx.c1 {w : World} {X : Nat} {s : ByteArray} {i e : Int} (h : Lx w X s i e) : w.cell? ⟨X, 1, none⟩ = some (.int .i64 i) := by rw [cell_plain h.blk]; rfl
theorem Lx.c2 {w : World} {X : Nat} {s : ByteArray} {i e : Int} (h : Lx w X s i e) : w.cell? ⟨X, 2, none⟩ = some (.int .i64 e) := by rw [cell_plain h.blk]; rfl
theorem Lx.fz {w : World} {X : Nat} {s : ByteArray} {i e : Int} (h : Lx w X s i e) (o : Nat) : w.frozen? ⟨X, o, none⟩ = false := frozen_plain h.blk o
theorem Lx.lt {w : World} {X : Nat} {s : ByteArray} {i e : Int} (h : Lx w X s i e) : X < w.heap.size := (Array.getElem?_eq_some_iff.1 h.blk).1
theorem Lx.kept {D : Nat → Prop} {w w' : World} {X : Nat} {s : ByteArray} {i e : Int} (h : Lx w X s i e) (hk : Kept D w w') (hX : ∀ k, k ≤ X → ¬ D k) : Lx w' X s i e := ⟨hk.heap h.blk (hX X (Nat.le_refl _)), h.tabs.kept hk fun k hk => hX k (Nat.le_of_lt hk)⟩
theorem Lx.put1 {w : World} {X : Nat} {s : ByteArray} {i e : Int} (h : Lx w X s i e) (j : Int) : Lx (w.setCell ⟨X, 1, none⟩ (.int .i64 j)) X s j e := by
  refine ⟨?_, h.tabs.kept (Kept.setCell (D := fun k => k = X) (Kept.refl _ _) (.inl rfl) _) fun k hk => by omega⟩
  have h := h.blk
  simp [World.setCell, Array.getElem?_modify, h]
theorem Lx.put2 {w : World} {X : Nat} {s : ByteArray} {i e : Int} (h : Lx w X s i e) (j : Int) : Lx (w.setCell ⟨X, 2, none⟩ (.int .i64 j)) X s i j := by
  refine ⟨?_, h.tabs.kept (Kept.setCell (D := fun k => k = X) (Kept.refl _ _) (.inl rfl) _) fun k hk => by omega⟩
  have h := h.blk
  simp [World.setCell, Array.getElem?_modify, h]
theorem Lx.drewN {w : World} {X : Nat} {s : ByteArray} {i e : Int} (h : Lx w X s i e) (m : Nat) : Lx (w.drewN m) X s i e :=
  ⟨h.blk, h.tabs.kept (D := fun _ => False) ⟨rfl, rfl, rfl, Nat.le_refl _, fun _ _ _ => rfl⟩ fun _ _ h => h⟩
theorem Kept.drewN {D : Nat → Prop} {a w : World} (h : Kept D a w) (m : Nat) : Kept D a (w.drewN m) := ⟨h.os, h.tape, h.output, h.size, h.block⟩

theorem rfail_no {w : World} {X : Nat} {s : ByteArray} {i : Int} (h : Lx w X s i 0) (c : Int) :
    Calls Tryd.prog 23 #[.pointer (some ⟨X, 0, none⟩), .int .i64 c] w fun e w' => e = .returned (.tuple #[]) ∧ Lx w' X s i c ∧ Kept (fun k => k = X) w w' := by
  have c2 := h.c2
  have f2 := h.fz 2
  have HH := Lib.hid h
  clear h
  go_enter Tryd.func23, Tryd.ntmps23
  go_wp2_with fail
  go_end0
  exact ⟨rfl, HH.out.put2 c, Kept.setCell (D := fun k => k = X) (Kept.refl _ _) (.inl rfl) _⟩
theorem rfail_yes {w : World} {X : Nat} {s : ByteArray} {i c : Int} (h : Lx w X s i c) (hc : (c == 0) = false) (d : Int) :
    Calls Tryd.prog 23 #[.pointer (some ⟨X, 0, none⟩), .int .i64 d] w fun e w' => e = .returned (.tuple #[]) ∧ w = w' := by
  have c2 := h.c2
  clear h
  go_enter Tryd.func23, Tryd.ntmps23
  go_wp2_with fail
  go_end0
  exact ⟨rfl, rfl⟩
theorem rat_err {w : World} {X : Nat} {s : ByteArray} {i c : Int} (h : Lx w X s i c) (hc : (c != 0) = true) (d : Int) :
    Calls Tryd.prog 38 #[.pointer (some ⟨X, 0, none⟩), .int .i64 d] w fun e w' => e = .returned (.int .u8 0) ∧ ∃ m, w' = w.drewN m := by
  have c2 := h.c2
  clear h
  go_enter Tryd.func38, Tryd.ntmps38
  go_wp2_with fail
  go_quiet (fail)
  go_wp2_with fail
  go_ret
  exact ⟨rfl, _, rfl⟩
theorem rat_any {w : World} {X : Nat} {s : ByteArray} {i : Nat} (h : Lx w X s (i : Int) 0) (k : Nat) (hi : i + k ≤ 1000000) :
    Calls Tryd.prog 38 #[.pointer (some ⟨X, 0, none⟩), .int .i64 (k : Int)] w fun e w' => e = .returned (.int .u8 (byteAt s (i + k) : Int)) ∧ ∃ m, w' = w.drewN m := by
  have c0 := h.c0
  have c1 := h.c1
  have c2 := h.c2
  obtain ⟨b, hb⟩ : ∃ b, byteAt s (i + k) = b := ⟨_, rfl⟩
  rw [hb]
  have e1 : IntKind.i64.wrap ((i : Int) + (k : Int)) = (i : Int) + (k : Int) := IntWalk.i64_in _ ⟨by omega, by omega⟩
  by_cases hlt : i + k < s.size
  · have h1 : ((i : Int) + (k : Int)) < (s.size : Int) := by omega
    have h2 : 0 ≤ (i : Int) + (k : Int) := by omega
    have hix : ∀ W, (Instr.index 9 (.string s) (.int .i64 ((i : Int) + (k : Int)))).run Tryd.prog W = .ok (.int .u8 (b : Int)) W := fun W => by
      rw [run_index_string W 9 s .i64 _ Tryd.underlying9, dif_pos ⟨h2, h1⟩, ← hb, byteAt_in hlt]
      simp only [show ((i : Int) + (k : Int)).toNat = i + k by omega]
    clear h hb hlt
    go_enter Tryd.func38, Tryd.ntmps38
    go_wp2_with fail
    go_quiet (fail)
    go_wp2_with fail
    go_quiet (fail)
    go_wp2_with fail
    go_ret
    exact ⟨rfl, _, by rw [World.drewN_drewN]⟩
  · have h1 : ¬ ((i : Int) + (k : Int)) < (s.size : Int) := by omega
    have hb0 : b = 0 := by rw [← hb]; exact byteAt_out (by omega)
    clear h hb hlt
    subst hb0
    go_enter Tryd.func38, Tryd.ntmps38
    go_wp2_with fail
    go_quiet (fail)
    go_wp2_with fail
    go_ret
    exact ⟨rfl, _, rfl⟩
end Go.Proofs.YtloaalapkmbgeaaDoor
