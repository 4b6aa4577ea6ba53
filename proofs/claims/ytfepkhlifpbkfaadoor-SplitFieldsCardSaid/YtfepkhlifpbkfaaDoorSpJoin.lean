/-
  Proved: contract of Join. Conditions: at most 1000 runs, each of at most 1000 bytes.
-/
import Derived.Test.YtfepkhlifpbkfaaDoorSpRChars
import Derived.Test.YtfepkhlifpbkfaaDoorSpAdd
namespace Go.Proofs.YtfepkhlifpbkfaaDoor
open Go Go.RowKit GlyphMath GlMath SpMath

def joinR (x : Rn) : List Ch := if x.b then [(32, false)] else chM x.q (letters x.text)
def joinM (l : List Rn) : List Ch := l.flatMap joinR
theorem joinM_take (l : List Rn) (k : Nat) (x : Rn) (h : l[k]? = some x) : joinM (l.take (k + 1)) = joinM (l.take k) ++ joinR x := by
  unfold joinM
  rw [List.take_add_one, h]
  simp
theorem joinR_len (x : Rn) (h : x.text.size ≤ 1000) : (joinR x).length ≤ 1001 := by
  unfold joinR
  split
  · simp
  · have := letters_length x.text
    rw [chM_len]; omega
theorem joinM_len : ∀ (l : List Rn), (∀ x ∈ l, x.text.size ≤ 1000) → (joinM l).length ≤ l.length * 1001
  | [], _ => by simp [joinM]
  | x :: l, h => by
    have h1 := joinM_len l (fun y hy => h y (List.mem_cons_of_mem _ hy))
    have h2 := joinR_len x (h x List.mem_cons_self)
    have e : joinM (x :: l) = joinR x ++ joinM l := rfl
    rw [e, List.length_append, List.length_cons, Nat.succ_mul]
    omega
theorem RowOf.add {w' : World} {B : Nat} {v' : Value} {l : List Ch} {n : Nat} {r : Int} {q : Bool} (hn : l.length = n) (hown : w'.ownsRow B 48 2 v' (n + 1) (l.flatMap cC ++ [.int .i32 r, .bool q])) : RowOf w' B v' (l ++ [(r, q)]) := by
  unfold RowOf
  rw [List.length_append, List.length_singleton, hn, List.flatMap_append]
  exact hown
def RelJ (B K Bx : Nat) (t : ByteArray) (q s : Bool) (w : World) (J : List Ch) (v : Value) (wr : World) : Prop :=
  ∃ (pos : Nat) (done : List Nat), wr.heap[K]? = some (.stringIter t pos) ∧ RowOf wr B v (J ++ chM q done) ∧ Below B w wr ∧ RnBlk wr Bx t q s false ∧ done ++ rest t pos = letters t
set_option maxRecDepth 8000 in
set_option maxHeartbeats 2000000 in
theorem join_any (l : List Rn) (v : Value) (w : World) (h : Rd 4 rnC w v l) (hl : l.length ≤ 1000) (hs : ∀ x ∈ l, x.text.size ≤ 1000) :
    Calls Tryd.prog 10 #[v] w fun e w' => ∃ u, e = .returned u ∧ RowOf w' w.heap.size u (joinM l) ∧ Below w.heap.size w w' := by
  obtain ⟨p, c, rfl⟩ := h.shape
  have HA := Lib.hid h
  obtain ⟨N, hN⟩ : ∃ N, l.length = N := ⟨_, rfl⟩
  have HN := Lib.hid hN
  have HS := Lib.hid hs
  rw [hN] at hl HA
  rw [hN]
  obtain ⟨i0, hi1, hi2, hi3, hi4⟩ := info_parts infoCh
  have HI := Lib.hid (And.intro hi1 (And.intro hi2 (And.intro hi3 hi4)))
  clear h hN hs hi1 hi2 hi3 hi4
  go_enter Tryd.func10, Tryd.ntmps10
  go_wp2_with fail
  go_loopw [3, 10] (fun u i wr => ∃ k : Nat, i = .int .i64 (k : Int) ∧ k ≤ N ∧ RowOf wr w.heap.size u (joinM (l.take k)) ∧ Below w.heap.size w wr) (fun _ i _ => N - (intOf i).toNat)
  case atStart => exact ⟨0, rfl, Nat.zero_le _, World.ownsRow_nil _ _ _ _, Below.refl _ _⟩
  case round =>
    obtain ⟨k, rfl, hk, hrow, hb⟩ := hrel
    have HB := Lib.hid hb
    by_cases hlt : k < N
    · obtain ⟨x, hx⟩ : ∃ x, l[k]? = some x := ⟨_, List.getElem?_eq_getElem (by rw [HN.out]; exact hlt)⟩
      obtain ⟨b, o, hq, c0⟩ := (HA.out.below hb (Nat.le_refl _)).get hx
      subst hq
      have hxs := HS.out x (List.mem_of_getElem? hx)
      have hj := joinM_take l k x hx
      have hjl := joinM_len (l.take k) (fun y hy => HS.out y (List.mem_of_mem_take hy))
      rw [List.length_take, HN.out, Nat.min_eq_left (Nat.le_of_lt hlt)] at hjl
      have hjl2 : (joinM (l.take k)).length ≤ 1001000 := by have : k * 1001 ≤ 1000 * 1001 := Nat.mul_le_mul_right _ (by omega); omega
      obtain ⟨J, hJ⟩ : ∃ J, joinM (l.take k) = J := ⟨_, rfl⟩
      rw [hJ] at hj hrow hjl2
      obtain ⟨xt, xq, xs, xb⟩ := x
      have d0 := c0 k _ hx 0 _ rfl
      have d1 := c0 k _ hx 1 _ rfl
      have d2 := c0 k _ hx 2 _ rfl
      have d3 := c0 k _ hx 3 _ rfl
      rw [Nat.add_zero] at d0
      simp only at d0 d1 d2 d3 hxs
      have HLT := Lib.hid hlt
      have hltI : (k : Int) < (N : Int) := by omega
      have hk1 : (k : Int) + 1 ≤ 9223372036854775807 := by omega
      obtain ⟨W0, hW0⟩ : ∃ W0, wr.alloc (.cells #[.string xt, .bool xq, .bool xs, .bool xb] 24) = W0 := ⟨_, rfl⟩
      have hbx : RnBlk W0 wr.heap.size xt xq xs xb := by rw [← hW0]; exact heap_alloc_new wr _
      have hrow0 : RowOf W0 w.heap.size u3 J := by rw [← hW0]; exact hrow.below ((Below.refl _ wr).alloc (Nat.le_refl _) _)
      have hb0 : Below w.heap.size w W0 := by rw [← hW0]; exact hb.alloc hb.size _
      have hs0 : wr.heap.size + 1 = W0.heap.size := by rw [← hW0]; simp
      obtain ⟨x0, x1, x2, x3⟩ := rn_cell hbx
      cases xb
      · have HJ := Lib.hid (show joinM (l.take (k + 1)) = J ++ chM xq (letters xt) from hj)
        have HH := Lib.hid (And.intro hrow0 (And.intro hb0 (And.intro hbx (And.intro hs0 (And.intro hjl2 hxs)))))
        clear hrow hb hk hlt hx c0 hxs hj hjl hjl2 hbx hrow0 hb0 hs0 hJ
        have HW0 := Lib.hid hW0
        clear hW0 x0 x1 x2 x3
        go_wp2_with fail
        rw [HW0.out]
        obtain ⟨BX, hBX⟩ : ∃ n, wr.heap.size = n := ⟨_, rfl⟩
        rw [hBX] at HH ⊢
        clear hBX HW0
        go_loopw [3] (fun v wq => RelJ w.heap.size (BX + 1) BX xt xq xs w J v wq) (fun _ wq => xt.size - wq.iterPos (BX + 1))
        case atStart =>
          obtain ⟨h1, h2, h3, h4, -, -⟩ := HH.out
          exact ⟨0, [], by rw [h4]; exact World.iter_heap W0 xt 0, by rw [show chM xq [] = [] from rfl, List.append_nil]; exact h1.below (below_iter W0 xt 0), h2.alloc h2.size _, alloc_cells _ _ _ _ _ h3, rfl⟩
        case round =>
          obtain ⟨pos, done, hk, hrow, hb, hbx, hdone⟩ := hrel
          have HKB := Lib.hid (show w.heap.size ≤ BX + 1 from by have := HH.out.2.1.size; have := HH.out.2.2.2.1; omega)
          obtain ⟨K, hK⟩ : ∃ K, BX + 1 = K := ⟨_, rfl⟩
          rw [hK] at hk HKB ⊢
          clear d0 d1 d2 d3 hK
          by_cases hp : pos < xt.size
          · obtain ⟨r, d, hd⟩ : ∃ r d, Utf8.decode xt pos = (r, d) := ⟨_, _, rfl⟩
            obtain ⟨W2, hW2⟩ : ∃ W2, wr.iterAt K xt (pos + d) = W2 := ⟨_, rfl⟩
            have hnx : ∀ ty, (Instr.next (.pointer (some ⟨K, 0, none⟩)) true ty).run Tryd.prog wr = .ok (.tuple #[.bool true, .int .i64 pos, .int .i32 (r : Int)]) W2 := fun ty => by rw [Lib.run_next_any_at wr K xt pos ty hk hp, hd, ← hW2]
            have hwd := width_pos xt pos hp
            have hst := rest_step xt pos hp
            rw [hd] at hst hwd
            simp only at hst hwd
            rw [hst] at hdone
            have hrow2 : RowOf W2 w.heap.size u3 (J ++ chM xq done) := by
              rw [← hW2]
              exact own_same hrow fun g hg => Lib.iterAt_other wr K g xt _ (fun e => own_off hrow hk (fun c fz e => by cases e) hg e)
            have hbx2 : RnBlk W2 BX xt xq xs false := by rw [← hW2]; exact iterAt_cells hk _ _ _ _ hbx
            have hb2 : Below w.heap.size w W2 := by rw [← hW2]; exact Lib.below_iterAt hb HKB.out _ _
            have hi2 : W2.heap[K]? = some (.stringIter xt (pos + d)) := by rw [← hW2]; exact Lib.iterAt_heap _ _ _ _ _ hk
            have hps : wr.iterPos K = pos := by unfold World.iterPos; rw [hk]
            have HM := Lib.hid (show ∀ (W3 : World), W3.heap[K]? = some (.stringIter xt (pos + d)) → xt.size - W3.iterPos K < xt.size - wr.iterPos K from fun W3 h => by
              have e1 : W3.iterPos K = pos + d := by unfold World.iterPos; rw [h]
              rw [e1, hps]; omega)
            have hlen : (J ++ chM xq done).length ≤ 1002000 := by
              have h1 := congrArg List.length hdone
              have h2 := letters_length xt
              have h3 := HH.out.2.2.2.2
              rw [List.length_append, List.length_cons] at h1
              rw [List.length_append, chM_len]
              omega
            obtain ⟨n, hn⟩ : ∃ n, (J ++ chM xq done).length = n := ⟨_, rfl⟩
            rw [hn] at hlen
            have HNN := Lib.hid hn
            obtain ⟨y0, y1, y2, y3⟩ := rn_cell hbx2
            have HO := Lib.hid (show ∀ o, (W2.alloc o).ownsRow w.heap.size 48 2 u3 n ((J ++ chM xq done).flatMap cC) from fun o => by have := hrow2.below ((Below.refl _ W2).alloc (Nat.le_refl _) o); unfold RowOf at this; rwa [hn] at this)
            have HZ := Lib.hid (show n + 1 ≤ maxLen ∧ (n + 1) * 8 ≤ 140737488355328 ∧ ∀ o, w.heap.size ≤ (W2.alloc o).heap.size from ⟨by unfold maxLen; omega, by omega, fun o => by have := hb2.size; simp; omega⟩)
            have HR := Lib.hid (And.intro hrow2 (And.intro hbx2 (And.intro hb2 (And.intro hi2 hdone))))
            have hKlt : K < W2.heap.size := (Array.getElem?_eq_some_iff.1 hi2).1
            have hblt : BX < W2.heap.size := (Array.getElem?_eq_some_iff.1 hbx2).1
            have HLL := Lib.hid (And.intro hKlt hblt)
            have HCN := Lib.hid (rchar_news W2 (.int .i32 (r : Int)) (.bool xq))
            have HC1 := Lib.hid (rchar_one (r : Int) xq)
            clear hW2 hd hwd hst hdone hrow2 hbx2 hb2 hi2 hps hlen hn hk hrow hb hbx hp hKlt hblt
            go_wp2_with (at_builtin; refine wpList_append_own _ rfl _ _ 32 rfl w.heap.size 48 i0 (.agg #[.int .i32 0, .bool false]) 2 8 Tryd.underlying32 HI.out.1 HI.out.2.1 HI.out.2.2.1 HI.out.2.2.2 rfl (by decide) u3 n ((J ++ chM xq done).flatMap cC) rfl (HO.out _) ⟨W2.heap.size, 0, none⟩ 1 1 [.int .i32 (r : Int), .bool xq] (by rfl) (by rfl) HCN.out HC1.out HZ.out.1 HZ.out.2.1 (HZ.out.2.2 _) ?_; intro v7 w7 hown hg hn; clear hn; have HO7 := Lib.hid hown; have HG7 := Lib.hid hg; clear hown hg)
            obtain ⟨hr2, hbx2, hb2, hi2, hdone⟩ := HR.out
            have hk : ∀ j, j < W2.heap.size → u3.ownBlock ≠ some j → w7.heap[j]? = W2.heap[j]? := fun j h1 h2 => (HG7.out.block j (by simp; omega) (fun e => h2 e.symm)).trans (Below.heap_alloc _ _ _ h1)
            have hi7 := (hk K HLL.out.1 (fun e => own_off hr2 hi2 (fun c fz e => by cases e) e rfl)).trans hi2
            go_roundw
            case rel =>
              refine ⟨pos + d, done ++ [r], hi7, ?_, ?_, (hk _ HLL.out.2 (fun e => own_off hr2 hbx2 (fun c fz e => by cases e) e rfl)).trans hbx2, by rw [List.append_assoc]; exact hdone⟩
              · have e1 : J ++ chM xq (done ++ [r]) = (J ++ chM xq done) ++ [((r : Int), xq)] := by simp [chM]
                rw [e1]
                exact RowOf.add HNN.out HO7.out
              · have hbA := hb2.alloc hb2.size (.cells #[.int .i32 (r : Int), .bool xq] 48)
                exact hbA.grown HG7.out hbA.size (fun j e => (World.ownsRow.lt hr2 j e).1)
            case measure => exact HM.out _ hi7
          · have hnx : ∀ ty, (Instr.next (.pointer (some ⟨K, 0, none⟩)) true ty).run Tryd.prog wr = _ := fun ty => Lib.run_next_end_at wr K xt pos ty hk hp
            rw [rest_end xt pos hp, List.append_nil] at hdone
            rw [hdone] at hrow
            have HR := Lib.hid (And.intro hrow hb)
            clear hk hrow hb hbx hdone hp
            go_wp2_with fail
            go_roundw
            case rel => exact ⟨k + 1, by simp, HLT.out, by rw [HJ.out]; exact HR.out.1, HR.out.2⟩
            case measure => have := HLT.out; simp [intOf]; omega
      · have HJ := Lib.hid (show joinM (l.take (k + 1)) = J ++ [(32, false)] from hj)
        obtain ⟨n, hn⟩ : ∃ n, J.length = n := ⟨_, rfl⟩
        have HNN := Lib.hid hn
        have HH := Lib.hid (And.intro hrow0 hb0)
        have HO := Lib.hid (show ∀ o, (W0.alloc o).ownsRow w.heap.size 48 2 u3 n (J.flatMap cC) from fun o => by have := hrow0.below ((Below.refl _ W0).alloc (Nat.le_refl _) o); unfold RowOf at this; rwa [hn] at this)
        have HZ := Lib.hid (show n + 1 ≤ maxLen ∧ (n + 1) * 8 ≤ 140737488355328 ∧ ∀ o, w.heap.size ≤ (W0.alloc o).heap.size from ⟨by unfold maxLen; omega, by omega, fun o => by have := hb0.size; simp; omega⟩)
        have HCN := Lib.hid (rchar_news W0 (.int .i32 32) (.bool false))
        have HC1 := Lib.hid (rchar_one 32 false)
        clear hrow hb hk hlt hx c0 hxs hj hjl hjl2 hbx hrow0 hb0 hs0 hJ hn
        go_wp2_with (first
          | (rw [hW0]; clear hW0)
          | (at_builtin; refine wpList_append_own _ rfl _ _ 32 rfl w.heap.size 48 i0 (.agg #[.int .i32 0, .bool false]) 2 8 Tryd.underlying32 HI.out.1 HI.out.2.1 HI.out.2.2.1 HI.out.2.2.2 rfl (by decide) u3 n (J.flatMap cC) rfl (HO.out _) ⟨W0.heap.size, 0, none⟩ 1 1 [.int .i32 32, .bool false] (by rfl) (by rfl) HCN.out HC1.out HZ.out.1 HZ.out.2.1 (HZ.out.2.2 _) ?_; intro v7 w7 hown hg hn; clear hn; have HO7 := Lib.hid hown; have HG7 := Lib.hid hg; clear hown hg))
        go_roundw
        case rel =>
          have hr7 : RowOf w7 w.heap.size v7 (J ++ [(32, false)]) := RowOf.add HNN.out HO7.out
          refine ⟨k + 1, by simp, HLT.out, by rw [HJ.out]; exact hr7, ?_⟩
          have hbA := HH.out.2.alloc HH.out.2.size (.cells #[.int .i32 32, .bool false] 48)
          exact hbA.grown HG7.out hbA.size (fun j e => (World.ownsRow.lt HH.out.1 j e).1)
        case measure => have := HLT.out; simp [intOf]; omega
    · have hltI : ¬ (k : Int) < (N : Int) := by omega
      have HE := Lib.hid (show RowOf wr w.heap.size u3 (joinM l) by
        rwa [List.take_of_length_le (by rw [HN.out]; omega)] at hrow)
      clear hrow hb hlt hk
      go_wp2_with fail
      go_ret
      exact ⟨_, rfl, HE.out, HB.out⟩
end Go.Proofs.YtfepkhlifpbkfaaDoor
