/-
  Proved: contracts of the statements' own Chars, and of their Same at rows of the same letters. Conditions: the library's tables lie as they should; texts of at most 1000 bytes.
-/
import Derived.Test.YtfepkhlifpbkfaaDoorSpMem
import Derived.Test.YtfepkhlifpbkfaaDoorGlyphRefR
namespace Go.Proofs.YtfepkhlifpbkfaaDoor
open Go Go.RowKit GlyphMath GlMath SpMath

theorem rchar_news (w : World) (a b : Value) : ∀ j u, ([a, b] : List Value)[j]? = some u → (w.alloc (.cells #[a, b] 48)).cell? ((⟨w.heap.size, 0, none⟩ : Addr).add j) = some u := fun j u hu => by
  have hb := heap_alloc_new w (.cells #[a, b] 48)
  rw [en_add, Nat.zero_add, cell_of_row _ _ j _ _ _ hb]
  simpa using hu
theorem rchar_one (a : Int) (b : Bool) : ∀ u ∈ ([.int .i32 a, .bool b] : List Value), u.oneCell' = true := fun u hu => by
  simp only [List.mem_cons, List.not_mem_nil, or_false] at hu
  rcases hu with rfl | rfl <;> rfl
theorem chM_len (q : Bool) (l : List Nat) : (chM q l).length = l.length := by simp [chM]
def RelRC (l : List Nat) (q : Bool) (w w1 : World) (v i : Value) (wr : World) : Prop :=
  ∃ k : Nat, i = .int .i64 (k : Int) ∧ k ≤ l.length ∧ RowOf wr w1.heap.size v (chM q (l.take k)) ∧ Below w1.heap.size w1 wr ∧ w.heap.size ≤ w1.heap.size
theorem RowOf.below {w w' : World} {B : Nat} {v : Value} {l : List Ch} (h : RowOf w B v l) (hb : Below w.heap.size w w') : RowOf w' B v l := own_same h fun g hg => hb.block g (World.ownsRow.lt h g hg).2
theorem RowOf.low {w : World} {B B' : Nat} {v : Value} {l : List Ch} (h : RowOf w B v l) (hB : B' ≤ B) : RowOf w B' v l := by
  refine ⟨h.1, ?_⟩
  rcases h.2 with hn | ⟨g, cap, cur, hv, hbg, r⟩
  · exact .inl hn
  · exact .inr ⟨g, cap, cur, hv, by omega, r⟩
set_option maxHeartbeats 1000000 in
set_option maxRecDepth 100000 in
theorem rchars_any (s : ByteArray) (q : Bool) (w : World) (hs : s.size ≤ 1000) (hT : Tabs w) :
    Calls Tryd.prog 14 #[.string s, .bool q] w fun e w' => ∃ v, e = .returned v ∧ RowOf w' w.heap.size v (chM q (letters s)) ∧ Below w.heap.size w w' := by
  have HR := Lib.hid (rrunes_any s w (by omega) hT)
  have hrl := letters_length s
  obtain ⟨L, hL⟩ : ∃ L, letters s = L := ⟨_, rfl⟩
  rw [hL] at HR hrl
  rw [hL]
  obtain ⟨N, hN⟩ : ∃ N, L.length = N := ⟨_, rfl⟩
  have HN := Lib.hid hN
  have HNL := Lib.hid (show N ≤ 1000 by omega)
  obtain ⟨i0, hi, hz0, hz1, hz2⟩ := info_parts infoCh
  have HI := Lib.hid (And.intro hi (And.intro hz0 (And.intro hz1 hz2)))
  clear hT hs hrl hL hN hi hz0 hz1 hz2
  go_enter Tryd.func14, Tryd.ntmps14
  go_wp2_with (go_at_call 19; (with_reducible refine HR.out.mono ?_); rintro e w1 ⟨v1, rfl, hr1, hb1⟩; obtain ⟨a1, c1, hv1⟩ := RowL.shape hr1; subst hv1; rw [HN.out] at hr1; have R1 := Lib.hid hr1; have B1 := Lib.hid hb1; clear hr1 hb1; rw [HN.out])
  go_loopw [6, 7] (fun v i wr => RelRC L q w w1 v i wr) (fun _ i _ => N - (intOf i).toNat)
  case atStart => exact ⟨0, rfl, Nat.zero_le _, World.ownsRow_nil _ _ _ _, Below.refl _ _, B1.out.size⟩
  case round =>
    obtain ⟨k, rfl, hk, hrow, hb, hsz⟩ := hrel
    rw [HN.out] at hk
    have HB := Lib.hid hb
    by_cases hlt : k < N
    · obtain ⟨x, hx⟩ : ∃ x, L[k]? = some x := ⟨_, List.getElem?_eq_getElem (by rw [HN.out]; exact hlt)⟩
      obtain ⟨g1, hg1⟩ : ∃ g1, a1 = some ⟨g1, 0, none⟩ := by
        rcases R1.out.2 with ⟨hv, h0⟩ | ⟨g, cap, cur, hv, -⟩
        · rw [HN.out] at h0; omega
        · simp only [Value.slice.injEq] at hv
          exact ⟨g, hv.1⟩
      subst hg1
      have cg0 : w1.cell? ⟨g1, k, none⟩ = some (.int .i32 (x : Int)) := by
        have h1 : w1.ownsRow w.heap.size 21 1 (.slice (some ⟨g1, 0, none⟩) N c1) N (rc L) := by
          have := R1.out
          unfold RowL at this
          rwa [HN.out] at this
        rw [World.ownsRow.cellAt h1 k (by omega), rc, List.getElem?_map, hx]; rfl
      have cg := (hb.cell (World.block_lt_of_cell? w1 _ cg0)).trans cg0
      have HLT := Lib.hid hlt
      have hltI : (k : Int) < (N : Int) := by omega
      have hk1 : (k : Int) + 1 ≤ 9223372036854775807 := by have := HNL.out; omega
      have hlk : (chM q (L.take k)).length = k := by rw [chM_len, List.length_take, HN.out]; omega
      have HO := Lib.hid (fun (o : Obj) => (show (wr.alloc o).ownsRow w1.heap.size 48 2 u6 k ((chM q (L.take k)).flatMap cC) from by
        have := hrow.below ((Below.refl _ wr).alloc (Nat.le_refl _) o)
        unfold RowOf at this
        rwa [hlk] at this))
      have HRW := Lib.hid hrow
      have HZ := Lib.hid (show k + 1 ≤ maxLen ∧ (k + 1) * 8 ≤ 140737488355328 ∧ ∀ o, w1.heap.size ≤ (wr.alloc o).heap.size from by have := HNL.out; have := hb.size; unfold maxLen; refine ⟨by omega, by omega, fun o => by simp; omega⟩)
      have HX := Lib.hid (show (chM q (L.take k)).flatMap cC ++ [.int .i32 (x : Int), .bool q] = (chM q (L.take (k + 1))).flatMap cC by
        rw [List.take_add_one, hx]; simp [chM, cC])
      have HXL := Lib.hid (show (chM q (L.take (k + 1))).length = k + 1 by rw [chM_len, List.length_take, HN.out]; omega)
      have HSZ := Lib.hid hsz
      clear hrow hb hlt hk hx cg0 hlk hsz
      go_wp2_with (at_builtin; refine wpList_append_own _ rfl _ _ 32 rfl w1.heap.size 48 i0 (.agg #[.int .i32 0, .bool false]) 2 8 Tryd.underlying32 HI.out.1 HI.out.2.1 HI.out.2.2.1 HI.out.2.2.2 rfl (by decide) u6 k ((chM q (L.take k)).flatMap cC) rfl (HO.out _) ⟨wr.heap.size, 0, none⟩ 1 1 [.int .i32 (x : Int), .bool q] (by rfl) (by rfl) (rchar_news _ _ _) (rchar_one _ _) HZ.out.1 HZ.out.2.1 (HZ.out.2.2 _) ?_; intro v7 w7 hown hg hn; clear hn; have HO7 := Lib.hid hown; have HG7 := Lib.hid hg; clear hown hg)
      go_roundw
      case rel =>
        refine ⟨k + 1, by simp, by rw [HN.out]; exact HLT.out, ?_, ?_, HSZ.out⟩
        · unfold RowOf
          rw [HXL.out, ← HX.out]
          exact HO7.out
        · have hbA := HB.out.alloc HB.out.size (.cells #[.int .i32 (x : Int), .bool q] 48)
          exact hbA.grown HG7.out hbA.size (fun j e => (World.ownsRow.lt HRW.out j e).1)
      case measure => have := HLT.out; simp [intOf]; omega
    · have hltI : ¬ (k : Int) < (N : Int) := by omega
      have HE := Lib.hid (show RowOf wr w1.heap.size u6 (chM q L) by
        rwa [List.take_of_length_le (by rw [HN.out]; omega)] at hrow)
      clear hrow hb hlt hk hsz
      go_wp2_with fail
      go_ret
      exact ⟨_, rfl, HE.out.low B1.out.size, B1.out.trans (HB.out.mono B1.out.size)⟩
set_option maxHeartbeats 1000000 in
set_option maxRecDepth 100000 in
/-- Two rows of one list are one. -/
theorem rsame_any (l : List Ch) (v u : Value) (w : World) (hv : Rd 2 cC w v l) (hu : Rd 2 cC w u l) :
    Calls Tryd.prog 9 #[v, u] w fun e w' => e = .returned (.bool true) ∧ Below w.heap.size w w' := by
  obtain ⟨p, c, rfl⟩ := hv.shape
  obtain ⟨p', c', rfl⟩ := hu.shape
  have HA := Lib.hid hv
  have HU := Lib.hid hu
  obtain ⟨N, hN⟩ : ∃ N, l.length = N := ⟨_, rfl⟩
  have HN := Lib.hid hN
  have HNM := Lib.hid (show N ≤ maxLen by rw [← hN]; exact hv.few)
  rw [hN] at HA HU ⊢
  clear hv hu hN
  go_enter Tryd.func9, Tryd.ntmps9
  go_wp2_with fail
  go_loopw [5] (fun i wr => ∃ k : Nat, i = .int .i64 (k : Int) ∧ k ≤ N ∧ Below w.heap.size w wr) (fun i _ => N - (intOf i).toNat)
  case atStart => exact ⟨0, rfl, Nat.zero_le _, Below.refl _ _⟩
  case round =>
    obtain ⟨k, rfl, hk, hb⟩ := hrel
    have HB := Lib.hid hb
    by_cases hlt : k < N
    · obtain ⟨x, hx⟩ : ∃ x, l[k]? = some x := ⟨_, List.getElem?_eq_getElem (by rw [HN.out]; exact hlt)⟩
      obtain ⟨b, o, hq, h1⟩ := (HA.out.below hb (Nat.le_refl _)).get hx
      obtain ⟨b', o', hq', h2⟩ := (HU.out.below hb (Nat.le_refl _)).get hx
      subst hq hq'
      have c0 := h1 k x hx 0 _ rfl
      have c1 := h1 k x hx 1 _ rfl
      have d0 := h2 k x hx 0 _ rfl
      have d1 := h2 k x hx 1 _ rfl
      rw [Nat.add_zero] at c0 d0
      obtain ⟨x1, x2⟩ := x
      simp only at c0 c1 d0 d1
      have HLT := Lib.hid hlt
      have hltI : (k : Int) < (N : Int) := by omega
      have hk1 : (k : Int) + 1 ≤ 9223372036854775807 := by have := HNM.out; unfold maxLen at this; omega
      clear hb hlt hk hx h1 h2
      go_wp2_with fail
      go_quiet (fail)
      go_wp2_with fail
      go_roundw
      case rel => exact ⟨k + 1, by simp, HLT.out, below_drewN HB.out _⟩
      case measure => have := HLT.out; simp [intOf]; omega
    · have hltI : ¬ (k : Int) < (N : Int) := by omega
      clear hb hlt hk
      go_wp2_with fail
      go_ret
      exact ⟨rfl, HB.out⟩
end Go.Proofs.YtfepkhlifpbkfaaDoor
