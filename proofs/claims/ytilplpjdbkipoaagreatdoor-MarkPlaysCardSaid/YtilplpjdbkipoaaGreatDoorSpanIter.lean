/-
  Proved: slices.Chunk of bytes at sixteen, as the loop over it wants it: each sixteen bytes come once, in order, the last ones fewer. Conditions: a slice's own bounds.
-/
import Derived.Test.YtilplpjdbkipoaaGreatDoorSpanMath
import Derived.Test.YtilplpjdbkipoaaGreatDoorRows
import Derived.RangeFuncNested
import Derived.RangeFuncBound
import Derived.RangeFuncCalls
import Derived.RangeFuncLeaves
import Derived.Shelf.Abstract
import Derived.Shelf.RegionOpen
import Derived.WalkKit
import Derived.OwnWalkIn
import Derived.TacticsInMore
import Derived.LoopNIn
import Derived.LoopIn
import Derived.RegionIn
import Derived.Lib.Hide
namespace Go.Proofs.YtilplpjdbkipoaaGreatDoor
open Go Go.RowKit Go.Shelf SpanMath

attribute [local go_sem] Oper.semAt_some

/-- The k-th sixteen bytes of a slice. -/
def chunkV (b o len k : Nat) : Value := .slice (some ⟨b, o + 16 * k, none⟩) (min 16 (len - 16 * k)) (min 16 (len - 16 * k))
/-- What a round keeps for the iterator: its two boxes. -/
def KeptB (B1 B2 : Nat) (w w' : World) : Prop := w'.heap[B1]? = w.heap[B1]? ∧ w'.heap[B2]? = w.heap[B2]?
theorem KeptB.refl (B1 B2 : Nat) (w : World) : KeptB B1 B2 w w := ⟨rfl, rfl⟩
theorem KeptB.trans {B1 B2 : Nat} {a b c : World} (h : KeptB B1 B2 a b) (k : KeptB B1 B2 b c) : KeptB B1 B2 a c := ⟨k.1.trans h.1, k.2.trans h.2⟩
theorem fin_take (m k : Nat) (h : k < m) : (List.finRange m).take (k + 1) = (List.finRange m).take k ++ [⟨k, h⟩] := by
  rw [List.take_succ_eq_append_getElem (by simpa using h)]
  simp

set_option maxRecDepth 100000 in
set_option maxHeartbeats 2000000 in
theorem chunk_rounds (n : Nat) (hn : 1 ≤ n) (l B1 B2 b o len cap : Nat) (hlc : len ≤ cap) (hcm : cap ≤ maxLen) (hlm : len ≤ 4294967296) (J Jx : List (Fin (cnt len)) → World → Prop)
    (hY : ∀ pre x W, J pre W → pre.length < cnt len → YieldAt Fence.wide (n - 1) Tryz.prog l #[chunkV b o len x.1] W fun e W' =>
      (e = .returned (.bool true) ∧ J (pre ++ [x]) W' ∧ KeptB B1 B2 W W') ∨ (e = .returned (.bool false) ∧ Jx (pre ++ [x]) W'))
    (hJd : ∀ pre W, J pre W → J pre W.drew)
    (W : World) (h1 : W.cell? ⟨B1, 0, none⟩ = some (.slice (some ⟨b, o, none⟩) len cap)) (h2 : W.cell? ⟨B2, 0, none⟩ = some (.int .i64 16)) (h0 : J [] W) :
    CallsIn Fence.wide n Tryz.prog 81 #[.func (.yield l) #[] #[], .pointer (some ⟨B1, 0, none⟩), .pointer (some ⟨B2, 0, none⟩)] W fun e W' => (∃ v, e = .returned v) ∧
      ((∃ ys, ys = List.finRange (cnt len) ∧ J ys W') ∨ (∃ pre, pre <+: List.finRange (cnt len) ∧ Jx pre W')) := by
  unfold maxLen at hcm
  refine callsIn_of_wp Tryz.func81 rfl trivial ?_ rfl
  simp only [Tryz.ntmps81, List.size_toArray, List.length_cons, List.length_nil, Nat.reduceAdd, Nat.reduceSub, Array.replicate_succ, Array.replicate_zero, List.push_toArray, List.append_toArray, List.nil_append, List.cons_append]
  gi_wp2
  gi_loopw [4] (fun i wr => ∃ k : Nat, k ≤ cnt len ∧ i = .int .i64 (16 * (k : Int)) ∧ J ((List.finRange (cnt len)).take k) wr ∧ KeptB B1 B2 W wr)
    (fun i _ => len + 16 - (intOf i).toNat)
  case atStart => exact ⟨0, Nat.zero_le _, rfl, h0, KeptB.refl _ _ _⟩
  case round =>
    obtain ⟨k, hk, rfl, hJs, hnx⟩ := hrel
    have c1 : wr.cell? ⟨B1, 0, none⟩ = some (.slice (some ⟨b, o, none⟩) len cap) := (World.cell?_of_block (a := ⟨B1, 0, none⟩) hnx.1).trans h1
    have c2 : wr.cell? ⟨B2, 0, none⟩ = some (.int .i64 16) := (World.cell?_of_block (a := ⟨B2, 0, none⟩) hnx.2).trans h2
    have hkc := cnt_lt len k
    by_cases hlt : k < cnt len
    · have hk16 := hkc.1 hlt
      have ha : (0 : Int) ≤ 16 * (k : Int) := by omega
      have hb : 16 * (k : Int) < (len : Int) := by omega
      have hc : 16 * (k : Int) ≤ (cap : Int) := by omega
      have hd : 16 * (k : Int) + 16 ≤ 9223372036854775807 := by omega
      obtain ⟨fn, tmps, assign, body, hy, hR⟩ := hY _ ⟨k, hlt⟩ wr.drew (hJd _ _ hJs) (by rw [List.length_take, List.length_finRange]; omega)
      dsimp only [chunkV] at hy
      clear hkc
      by_cases hs : len - 16 * k < 16
      · rw [Nat.min_eq_right (by omega)] at hy
        have hs' : ((len - 16 * k : Nat) : Int) < 16 := by omega
        have hHs := Lib.hid hs
        clear hs
        gi_wp2
        gi_region
        gi_wp2
        refine hR.mono ?_
        rintro e W3 (⟨rfl, hJ3, hk3⟩ | ⟨rfl, hJx3⟩)
        · have d2 : W3.cell? ⟨B2, 0, none⟩ = some (.int .i64 16) := (World.cell?_of_block (a := ⟨B2, 0, none⟩) (hnx.trans hk3).2).trans h2
          gi_wp2
          go_roundw
          case rel => exact ⟨k + 1, by omega, by simp; omega, by rw [fin_take _ _ hlt]; exact hJ3, hnx.trans hk3⟩
          case measure => simp [intOf]; omega
        · gi_wp2
          refine bodyPost_ret (results_none rfl _ _ _) rfl ?_
          exact ⟨⟨_, rfl⟩, .inr ⟨_, by rw [← fin_take _ _ hlt]; exact List.take_prefix _ _, hJx3⟩⟩
      · rw [Nat.min_eq_left (by omega)] at hy
        have hs' : ¬ ((len - 16 * k : Nat) : Int) < 16 := by omega
        have hs2 : 16 * (k : Int) + 16 ≤ (cap : Int) := by omega
        have hHs := Lib.hid hs
        clear hs
        gi_wp2
        gi_region
        gi_wp2
        refine hR.mono ?_
        rintro e W3 (⟨rfl, hJ3, hk3⟩ | ⟨rfl, hJx3⟩)
        · have d2 : W3.cell? ⟨B2, 0, none⟩ = some (.int .i64 16) := (World.cell?_of_block (a := ⟨B2, 0, none⟩) (hnx.trans hk3).2).trans h2
          gi_wp2
          go_roundw
          case rel => exact ⟨k + 1, by omega, by simp; omega, by rw [fin_take _ _ hlt]; exact hJ3, hnx.trans hk3⟩
          case measure => simp [intOf]; omega
        · gi_wp2
          refine bodyPost_ret (results_none rfl _ _ _) rfl ?_
          exact ⟨⟨_, rfl⟩, .inr ⟨_, by rw [← fin_take _ _ hlt]; exact List.take_prefix _ _, hJx3⟩⟩
    · obtain rfl : k = cnt len := by omega
      have hb : (len : Int) ≤ 16 * ((cnt len : Nat) : Int) := by have := cnt_le len; omega
      have hJ := hJs
      rw [List.take_of_length_le (by simp)] at hJ
      gi_wp2
      go_end0
      exact ⟨⟨_, rfl⟩, .inl ⟨_, rfl, hJ⟩⟩

set_option maxRecDepth 100000 in
set_option maxHeartbeats 1000000 in
/-- .. of no bytes: no round. -/
theorem chunk_empty (n : Nat) (l B1 B2 : Nat) (p : Option Addr) (cap : Nat) {α : Type} (J : List α → World → Prop) (W : World) (h1 : W.cell? ⟨B1, 0, none⟩ = some (.slice p 0 cap)) (h0 : J [] W) :
    CallsIn Fence.wide n Tryz.prog 81 #[.func (.yield l) #[] #[], .pointer (some ⟨B1, 0, none⟩), .pointer (some ⟨B2, 0, none⟩)] W fun e W' => (∃ v, e = .returned v) ∧ J [] W' := by
  refine callsIn_of_wp Tryz.func81 rfl trivial ?_ rfl
  simp only [Tryz.ntmps81, List.size_toArray, List.length_cons, List.length_nil, Nat.reduceAdd, Nat.reduceSub, Array.replicate_succ, Array.replicate_zero, List.push_toArray, List.append_toArray, List.nil_append, List.cons_append]
  gi_wp2
  gi_loopw [4] (fun i wr => i = .int .i64 0 ∧ W = wr) (fun _ _ => 0)
  case atStart => exact ⟨rfl, rfl⟩
  case round =>
    obtain ⟨rfl, rfl⟩ := hrel
    gi_wp2
    go_end0
    exact ⟨⟨_, rfl⟩, h0⟩

/-- slices.Chunk of bytes at sixteen: the slice and the number are boxed; the function value captures the boxes. -/
theorem chunk_any (p : Option Addr) (len cap : Nat) (w : World) :
    Calls Tryz.prog 65 #[.slice p len cap, .int .i64 16] w fun e w' => e = .returned (.func (.func 81) #[] #[.pointer (some ⟨w.heap.size, 0, none⟩), .pointer (some ⟨w.heap.size + 1, 0, none⟩)]) ∧
      (w.alloc (.cells #[.slice p len cap] 56)).alloc (.cells #[.int .i64 16] 3) = w' := by
  go_enter Tryz.func65, Tryz.ntmps65
  go_wp2_with fail
  go_ret
  exact ⟨rfl, rfl⟩

theorem abides_drew {β : Type} {B : Nat} {J : β → World → Prop} (h : AbidesFrom B J) {s : β} {W : World} (hs : J s W) : J s W.drew :=
  h s W W.drew none hs ⟨rfl, rfl, rfl, Nat.le_refl _, fun _ _ _ => rfl⟩ (fun r e => by cases e)

/-- WHAT A LOOP OVER IT WANTS: all rounds, or a beginning of them. -/
theorem chunk_stops (n : Nat) (hn : 1 ≤ n) (B1 B2 b o len cap : Nat) (p : Option Addr) (hp : 0 < len → p = some ⟨b, o, none⟩) (hlc : len ≤ cap) (hcm : cap ≤ maxLen) (hlm : len ≤ 4294967296) (w : World)
    (h1 : w.cell? ⟨B1, 0, none⟩ = some (.slice p len cap)) (h2 : w.cell? ⟨B2, 0, none⟩ = some (.int .i64 16)) :
    SeqStopsK Fence.wide n Tryz.prog 81 #[.pointer (some ⟨B1, 0, none⟩), .pointer (some ⟨B2, 0, none⟩)] (fun x : Fin (cnt len) => #[chunkV b o len x.1]) (KeptB B1 B2)
      (fun ys => ys = List.finRange (cnt len)) (fun pre => pre <+: List.finRange (cnt len)) (cnt len) w := fun l J Jx W hW hJ _ hY h0 => by
  have c1 : W.cell? ⟨B1, 0, none⟩ = some (.slice p len cap) := (hW.cell (p := ⟨B1, 0, none⟩) (World.block_lt_of_cell? w _ h1)).trans h1
  have c2 : W.cell? ⟨B2, 0, none⟩ = some (.int .i64 16) := (hW.cell (p := ⟨B2, 0, none⟩) (World.block_lt_of_cell? w _ h2)).trans h2
  rcases Nat.eq_zero_or_pos len with h | h
  · subst h
    exact (chunk_empty n l B1 B2 p cap J W c1 h0).mono fun e W' ⟨he, hj⟩ => ⟨he, .inl ⟨[], rfl, hj⟩⟩
  · rw [hp h] at c1
    exact chunk_rounds n hn l B1 B2 b o len cap hlc hcm hlm J Jx hY (fun pre W h => abides_drew hJ h) W c1 c2 h0
end Go.Proofs.YtilplpjdbkipoaaGreatDoor
