/-
  Proved: contracts of Chars, Match. Conditions: texts of at most 1000 bytes, patterns of at most 100000 letters.
-/
import Derived.Test.YtpgmlbdfmcbgoaaDoorGlHas
import Derived.Laws.OwnMore
namespace Go.Proofs.YtpgmlbdfmcbgoaaDoor
open Go Go.RowKit GlyphMath GlMath

/-- Letters of a pattern as cells. -/
def chC : List Ch → List Value
  | [] => []
  | c :: l => .int .i32 c.1 :: .bool c.2 :: chC l
theorem chC_length : ∀ l : List Ch, (chC l).length = l.length * 2
  | [] => rfl
  | x :: l => by simp [chC, chC_length l]; omega
theorem chC_append : ∀ (l m : List Ch), chC (l ++ m) = chC l ++ chC m
  | [], _ => rfl
  | x :: l, m => by simp [chC, chC_append l m]
theorem chC_at : ∀ (l : List Ch) (k : Nat) (x : Ch), l[k]? = some x → (chC l)[k * 2]? = some (.int .i32 x.1) ∧ (chC l)[k * 2 + 1]? = some (.bool x.2)
  | [], _, _, h => by simp at h
  | a :: l, 0, x, h => by
    simp only [List.getElem?_cons_zero, Option.some.injEq] at h
    subst h
    exact ⟨rfl, rfl⟩
  | a :: l, k + 1, x, h => by
    rw [List.getElem?_cons_succ] at h
    have := chC_at l k x h
    rw [Nat.succ_mul]
    exact this
/-- A pattern's row that the call owns. -/
def RowC (w : World) (B : Nat) (v : Value) (l : List Ch) : Prop := w.ownsRow B 35 2 v l.length (chC l)
theorem RowC.at_ {w : World} {B : Nat} {v : Value} {l : List Ch} (h : RowC w B v l) : ChAt w v l := by
  rcases h.2 with ⟨hv, hn⟩ | ⟨g, cap, cur, hv, hbg, hg, h1, h2, h3, h4⟩
  · exact ⟨none, 0, by rw [hv, hn], by omega, by decide, .inl ⟨rfl, rfl⟩⟩
  · refine ⟨_, cap, hv, h1, h2, .inr ⟨g, 0, rfl, fun k x hk => ?_⟩⟩
    obtain ⟨e0, e1⟩ := chC_at l k x hk
    have key : ∀ j u, (chC l)[j]? = some u → w.cell? ⟨g, 0 + j, none⟩ = some u := fun j u hj => by
      rw [Nat.zero_add, cell_of_row w g j cur _ _ hg]
      rw [← h4, List.getElem?_take] at hj
      split at hj
      · simpa using hj
      · cases hj
    exact ⟨key _ _ e0, key _ _ e1⟩
theorem set_blk {w : World} {g : Nat} {C : Array Value} {t : TypeId} {fr : Nat × Nat} (o : Nat) (u : Value) (h : w.heap[g]? = some (.cells C t fr)) : (w.setCell ⟨g, o, none⟩ u).heap[g]? = some (.cells (C.setIfInBounds o u) t fr) := by simp [World.setCell, Array.getElem?_modify, h]
theorem take_set2 (C : List Value) (k : Nat) (a b : Value) (h : k * 2 + 1 < C.length) : ((C.set (k * 2) a).set (k * 2 + 1) b).take ((k + 1) * 2) = C.take (k * 2) ++ [a, b] := by
  apply List.ext_getElem?
  intro i
  rw [Nat.succ_mul, List.getElem?_take, List.getElem?_append, List.length_take, List.getElem?_take]
  by_cases h1 : i < k * 2
  · rw [if_pos (by omega), if_pos (by omega), if_pos h1, List.getElem?_set_ne (by omega), List.getElem?_set_ne (by omega)]
  · by_cases h2 : i = k * 2
    · subst h2
      rw [if_pos (by omega), if_neg (by omega), List.getElem?_set_ne (by omega), List.getElem?_set_self (by omega), show k * 2 - min (k * 2) C.length = 0 by omega]
      rfl
    · by_cases h3 : i = k * 2 + 1
      · subst h3
        rw [if_pos (by omega), if_neg (by omega), List.getElem?_set_self (by rw [List.length_set]; omega), show k * 2 + 1 - min (k * 2) C.length = 1 by omega]
        rfl
      · rw [if_neg (by omega), if_neg (by omega), List.getElem?_eq_none (by simp; omega)]
theorem infoCh : (Tryd.prog.info? 35).map (fun i => (i.zero, i.size, i.bytes)) = some (some (.agg #[.int .i32 0, .bool false]), 2, 8) := by kernel_rfl
theorem chM_length (q : Bool) (l : List Nat) : (chM q l).length = l.length := by simp [chM]

/-- Laid so far. -/
def RelK (l : List Nat) (q : Bool) (g : Nat) (w1 : World) (v : Value) (wr : World) : Prop :=
  ∃ (k : Nat) (C : Array Value), v = .int .i64 (k : Int) ∧ k ≤ l.length ∧ wr.heap[g]? = some (.cells C 35 (0, 0)) ∧ C.size = l.length * 2 ∧ C.toList.take (k * 2) = chC (chM q (l.take k)) ∧ Below g w1 wr
set_option maxHeartbeats 1000000 in
theorem chars_any (s : ByteArray) (q : Bool) (w : World) (hs : s.size ≤ 1000) :
    Calls Tryd.prog 5 #[.string s, .bool q] w fun e w' => ∃ g c, e = .returned (.slice (some ⟨g, 0, none⟩) (letters s).length c) ∧ RowC w' w.heap.size (.slice (some ⟨g, 0, none⟩) (letters s).length c) (chM q (letters s)) ∧ Below w.heap.size w w' := by
  have hrl := letters_length s
  have hR := runes_any s w hs
  obtain ⟨L, hL⟩ : ∃ L, letters s = L := ⟨_, rfl⟩
  rw [hL] at hR hrl
  rw [hL]
  have HR := Lib.hid hR
  obtain ⟨n, hn⟩ : ∃ n, L.length = n := ⟨_, rfl⟩
  have HN := Lib.hid hn
  rw [hn] at hrl HR
  rw [hn]
  obtain ⟨i0, hi, hz0, hz1, hz2⟩ := info_parts infoCh
  have B2 := Lib.hid (show i0.bytes * n ≤ 281474976710656 by rw [hz2]; omega)
  have B3 := Lib.hid (show n ≤ maxLen by unfold maxLen; omega)
  have HNL := Lib.hid (show n ≤ 1000 by omega)
  have HI := Lib.hid (And.intro hi (And.intro hz0 hz1))
  clear hR hL hn hrl hs hi hz0 hz1 hz2
  go_enter Tryd.func5, Tryd.ntmps5
  go_wp2_with (first
    | (go_at_call 13; (with_reducible refine HR.out.mono ?_); rintro e w1 ⟨g1, c1, rfl, hr1, hb1⟩; have HR1 := Lib.hid hr1; have HB1 := Lib.hid hb1; clear hb1 hr1)
    | (at_make; refine wpList_make_full _ rfl _ _ 22 rfl w1.heap.size 35 i0 (.agg #[.int .i32 0, .bool false]) 2 Tryd.underlying22 HI.out.1 HI.out.2.1 HI.out.2.2 .i64 .i64 _ _ n rfl rfl rfl rfl B2.out B3.out (Nat.le_refl _) ?_; intro w2 hown2 hg2; have HO2 := Lib.hid hown2; have HG2 := Lib.hid hg2; clear hown2 hg2))
  have hb12 : Below w1.heap.size w1 w2 := ⟨HG2.out.os, HG2.out.tape, HG2.out.output, HG2.out.size, fun k hk => HG2.out.block k hk (by simp)⟩
  have HB12 := Lib.hid hb12
  obtain ⟨g, hgg⟩ : ∃ g, w1.heap.size = g := ⟨_, rfl⟩
  have HGG := Lib.hid hgg
  have hblk : ∃ C : Array Value, w2.heap[g]? = some (.cells C 35 (0, 0)) ∧ C.size = n * 2 := by
    rcases HO2.out.2 with ⟨hv, hn⟩ | ⟨g', cap, cur, hv, hbg, hg', h1, h2, h3, h4⟩
    · cases hv
    · simp only [Value.slice.injEq, Option.some.injEq, Addr.mk.injEq, and_true, true_and] at hv
      rw [← hgg]
      refine ⟨cur, ?_, ?_⟩
      · rw [hv.1]; exact hg'
      · rw [hv.2]; exact h3
  obtain ⟨C0, hC0, hs0⟩ := hblk
  rw [hgg]
  go_loopw [16] (fun v wr => RelK L q g w1 v wr) (fun v _ => n - (intOf v).toNat)
  case atStart => exact ⟨0, C0, rfl, Nat.zero_le _, hC0, by rw [HN.out]; exact hs0, by simp [chM, chC], by rw [← hgg]; exact hb12⟩
  case round =>
    obtain ⟨k, C, rfl, hk, hC, hCs, hCt, hb⟩ := hrel
    have HB := Lib.hid hb
    have HC := Lib.hid (And.intro hC (And.intro hCs hCt))
    rw [HN.out] at hk hCs
    by_cases hlt : k < n
    · obtain ⟨x, hx⟩ : ∃ x, L[k]? = some x := ⟨_, List.getElem?_eq_getElem (by rw [HN.out]; exact hlt)⟩
      have cg0 : w1.cell? ⟨g1, k, none⟩ = some (.int .i32 (x : Int)) := by
        have h1 : w1.ownsRow w.heap.size 21 1 (.slice (some ⟨g1, 0, none⟩) n c1) n (rc L) := by
          have := HR1.out
          unfold RowL at this
          rwa [HN.out] at this
        rw [World.ownsRow.cellAt h1 k (by omega), rc, List.getElem?_map, hx]; rfl
      have cg := (hb.cell (p := ⟨g1, k, none⟩) (by rw [← hgg]; exact World.block_lt_of_cell? w1 _ cg0)).trans cg0
      have d0 : ∃ u, wr.cell? ⟨g, k * 2, none⟩ = some u := ⟨_, (cell_of_row wr g (k * 2) C _ _ hC).trans (Array.getElem?_eq_getElem (by omega))⟩
      have d1 : ∃ u, wr.cell? ⟨g, k * 2 + 1, none⟩ = some u := ⟨_, (cell_of_row wr g (k * 2 + 1) C _ _ hC).trans (Array.getElem?_eq_getElem (by omega))⟩
      obtain ⟨u0, d0⟩ := d0
      obtain ⟨u1, d1⟩ := d1
      have f0 : wr.frozen? ⟨g, k * 2, none⟩ = false := Lib.frozen_of_heap hC _
      have f1 : wr.frozen? ⟨g, k * 2 + 1, none⟩ = false := Lib.frozen_of_heap hC _
      have HLT := Lib.hid hlt
      have hltI : (k : Int) < (n : Int) := by omega
      have hk1 : (k : Int) + 1 ≤ 9223372036854775807 := by have := HNL.out; omega
      have HXX := Lib.hid hx
      clear hC0 hs0 hb12 hgg hk hC hCs hCt hb hlt hx cg0
      go_wp2_with fail
      go_roundw
      case rel =>
        obtain ⟨h1, h2, h3⟩ := HC.out
        refine ⟨k + 1, _, by simp, by rw [HN.out]; exact HLT.out, set_blk _ _ (set_blk _ _ h1), by simp [h2], ?_, below_set (below_set HB.out)⟩
        have hl : k * 2 + 1 < C.toList.length := by have := HLT.out; rw [Array.length_toList, h2, HN.out]; omega
        have ht : L.take (k + 1) = L.take k ++ [x] := by
          have hk : k < L.length := by rw [HN.out]; exact HLT.out
          rw [List.take_add_one, HXX.out]; rfl
        rw [Array.toList_setIfInBounds, Array.toList_setIfInBounds, take_set2 _ _ _ _ hl, h3, ht]
        simp [chM, chC_append, chC]
      case measure => have := HLT.out; simp [intOf]; omega
    · have hltI : ¬ (k : Int) < (n : Int) := by omega
      have hkn : k = n := by omega
      have HE := Lib.hid (show RowC wr w.heap.size (.slice (some ⟨g, 0, none⟩) n n) (chM q L) from by
        refine ⟨by rw [chC_length], .inr ⟨g, n, C, by rw [chM_length, HN.out], by rw [← HGG.out]; exact HB1.out.size, hC, by rw [chM_length, HN.out]; exact Nat.le_refl _, B3.out, hCs, ?_⟩⟩
        rw [hkn] at hCt
        rw [chM_length, HN.out, hCt, List.take_of_length_le (by rw [HN.out]; exact Nat.le_refl _)])
      have HBE := Lib.hid (show Below w.heap.size w wr from HB1.out.trans (hb.mono (by rw [← HGG.out]; exact HB1.out.size)))
      clear hC0 hs0 hb12 hgg hk hC hCs hCt hb hlt hkn
      go_wp2_with fail
      go_ret
      exact ⟨g, n, rfl, HE.out, HBE.out⟩
set_option maxHeartbeats 1000000 in
theorem match_in (l : List Ch) (v : Value) (s : ByteArray) (w : World) (h : ChAt w v l) (hl : l.length ≤ 100000) (hs : s.size ≤ 1000) :
    Calls Tryd.prog 8 #[v, .string s] w fun e w' => e = .returned (.bool (globM l ((letters s).map fun (x : Nat) => (x : Int)))) ∧ Below w.heap.size w w' := by
  have HP := Lib.hid (pieces_any l v w h hl)
  have hrl := letters_length s
  have HR := Lib.hid (fun W => runes_any s W hs)
  obtain ⟨L, hL⟩ : ∃ L, letters s = L := ⟨_, rfl⟩
  rw [hL] at HR hrl
  rw [hL]
  have HLL := Lib.hid (show L.length ≤ 1000 by omega)
  have HM := Lib.hid (fun (R : List (Pc × Value)) (v' : Value) (g c : Nat) (W : World) (hR : R.map (·.1) = piecesM l.length true l) (hat : PcAt W v' R) (hit : ∀ x ∈ R, ChAt W x.2 x.1.items) (B : Nat) (hrow : RowL W B (.slice (some ⟨g, 0, none⟩) L.length c) L) => (show Calls Tryd.prog 15 #[v', .slice (some ⟨g, 0, none⟩) L.length c] W fun e w' => e = .returned (.bool (globM l (L.map fun (x : Nat) => (x : Int)))) ∧ Below W.heap.size W w' from by
    have h1 := match_any R v' (L.map fun (x : Nat) => (x : Int)) g c W hat hit (by
      have := congrArg List.length hR
      rw [List.length_map] at this
      have h2 := pieces_length l.length true l
      omega) (by rw [List.length_map]; have := HLL.out; omega) (fun j x hx => by
      have hj : j < L.length := by have := (List.getElem?_eq_some_iff.1 hx).1; rwa [List.length_map] at this
      rw [World.ownsRow.cellAt hrow j (by omega), rc]
      rw [List.getElem?_map] at hx ⊢
      rw [List.getElem?_eq_getElem hj] at hx ⊢
      simp only [Option.map_some, Option.some.injEq] at hx ⊢
      rw [hx])
    rw [List.length_map, hR] at h1
    exact h1))
  obtain ⟨p, c, rfl, -⟩ := h.is
  obtain ⟨B, hB⟩ : ∃ B, globM l (L.map fun (x : Nat) => (x : Int)) = B := ⟨_, rfl⟩
  simp only [hB] at HM
  rw [hB]
  clear h hl hs hrl hL hB
  go_enter Tryd.func8, Tryd.ntmps8
  go_wp2_with (first
    | (go_at_call 16; (with_reducible refine HP.out.mono ?_); rintro e w1 ⟨R, v1, rfl, hR, hown, hit, hb1⟩; have HB1 := Lib.hid hb1; have HR1 := Lib.hid (And.intro hR (And.intro hown hit)); clear hb1 hR hown hit)
    | (go_at_call 13; (with_reducible refine (HR.out _).mono ?_); rintro e w2 ⟨g2, c2, rfl, hr2, hb2⟩; have HR2 := Lib.hid hr2; have HB2 := Lib.hid (HB1.out.trans (hb2.mono HB1.out.size)); have HBX := Lib.hid hb2; clear hb2 hr2)
    | (go_at_call 15; (with_reducible refine (HM.out R _ g2 c2 _ HR1.out.1 ((PcAt.of HR1.out.2.1).below HBX.out) (fun x hx => (HR1.out.2.2 x hx).below HB2.out) _ HR2.out).mono ?_); rintro e w3 ⟨rfl, hb3⟩; have HB3 := Lib.hid (HB2.out.trans (hb3.mono HB2.out.size)); clear hb3))
  go_ret
  exact ⟨rfl, HB3.out⟩
end Go.Proofs.YtpgmlbdfmcbgoaaDoor
