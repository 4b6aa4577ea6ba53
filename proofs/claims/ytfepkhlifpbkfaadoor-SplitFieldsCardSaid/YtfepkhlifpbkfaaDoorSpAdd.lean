/-
  Proved: contract of what takes a run. Conditions: the fields lie in memory; they are not too many.
-/
import Derived.Test.YtfepkhlifpbkfaaDoorSpEnd
import Derived.Test.YtfepkhlifpbkfaaDoorGlyphBlank
namespace Go.Proofs.YtfepkhlifpbkfaaDoor
open Go Go.RowKit GlyphMath GlMath SpMath

/-- Blocks of cells stay. -/
def Cs (w w' : World) : Prop := ∀ (k : Nat) (c : Array Value) (e : TypeId) (fz : Nat × Nat), w.heap[k]? = some (.cells c e fz) → w'.heap[k]? = some (.cells c e fz)
section
variable {w w' : World}
/-- It stays where no cells turn. -/
theorem StV.kept {B X : Nat} {ve vl : Value} {vs : List Sl} {f : Fld} (h : StV w B X ve vl vs f) (hk : Cs w w') : StV w' B X ve vl vs f := by
  have own : ∀ {B e size n : Nat} {v : Value} {xs : List Value}, w.ownsRow B e size v n xs → w'.ownsRow B e size v n xs := fun h => own_same h fun g hg => by
    obtain ⟨c, hc⟩ := own_type h hg
    rw [hk _ _ _ _ hc, hc]
  exact ⟨hk _ _ _ _ h.blk, h.low, ⟨own h.fs.row, h.fs.len, fun k u l hu hl => own (h.fs.each k u l hu hl)⟩, own h.row, h.ap⟩
theorem StV.opens {B X : Nat} {ve vl : Value} {vs : List Sl} {f : Fld} (h : StV w B X ve vl vs f) (q : Bool) : StV (w.setCell ⟨X, 2, none⟩ (.bool (f.begun || q))) B X ve vl vs (f.opens q) := by
  have own : ∀ {B e size n : Nat} {v : Value} {xs : List Value}, w.ownsRow B e size v n xs → e ≠ 43 → (w.setCell ⟨X, 2, none⟩ (.bool (f.begun || q))).ownsRow B e size v n xs := fun ho he => own_same ho fun g hg => sp_other (fun e1 => by
    obtain ⟨c, hc⟩ := own_type ho hg
    rw [e1, h.blk] at hc
    cases hc
    exact he rfl) _ _
  exact ⟨sp_set h.blk 2 _, h.low, ⟨own h.fs.row (by decide), h.fs.len, fun k u l hu hl => own (h.fs.each k u l hu hl) (by decide)⟩, own h.row (by decide), h.ap⟩
theorem Kp.alloc {a : World} (h : Kp a w) (o : Obj) : Kp a (w.alloc o) := fun k x hk hf => (Below.heap_alloc _ _ _ (Array.getElem?_eq_some_iff.1 (h k x hk hf)).1).trans (h k x hk hf)
theorem Kp.iterAt {a : World} {K p : Nat} {s : ByteArray} (h : Kp a w) (hK : a.heap.size ≤ K) : Kp a (w.iterAt K s p) := fun k x hk hf => (Lib.iterAt_other w K k s p (by have := (Array.getElem?_eq_some_iff.1 hk).1; omega)).trans (h k x hk hf)
theorem Kp.set {a : World} {X i : Nat} {ve vl u : Value} {b : Bool} (h : Kp a w) (hX : FdBlk a X ve vl b) : Kp a (w.setCell ⟨X, i, none⟩ u) := fun k x hk hf => by
  refine (sp_other (fun e => ?_) _ _).trans (h k x hk hf)
  rw [e, hX] at hk
  cases hk
  exact (hf _ _ _ rfl).1 rfl
theorem alloc_cells (o : Obj) : Cs w (w.alloc o) := fun _ _ _ _ hk => (Below.heap_alloc _ _ _ (Array.getElem?_eq_some_iff.1 hk).1).trans hk
theorem iterAt_cells {K pos p : Nat} {s : ByteArray} (hk : w.heap[K]? = some (.stringIter s pos)) : Cs w (w.iterAt K s p) := fun k c e fz h => (Lib.iterAt_other w K k s p (fun e1 => by rw [e1, hk] at h; cases h)).trans h
end
theorem blk_ne {w : World} {k X : Nat} {c c' : Array Value} {e e' : TypeId} {fz fz' : Nat × Nat} (h : w.heap[k]? = some (.cells c e fz)) (h' : w.heap[X]? = some (.cells c' e' fz')) (he : e ≠ e') : k ≠ X := fun e1 => by
  subst e1
  rw [h] at h'
  simp only [Option.some.injEq, Obj.cells.injEq] at h'
  exact he h'.2.1
/-- A run that has been boxed. -/
abbrev RnBlk (w : World) (k : Nat) (t : ByteArray) (q s b : Bool) : Prop := w.heap[k]? = some (.cells #[.string t, .bool q, .bool s, .bool b] 24 (0, 0))
theorem rn_cell {w : World} {k : Nat} {t : ByteArray} {q s b : Bool} (h : RnBlk w k t q s b) : w.cell? ⟨k, 0, none⟩ = some (.string t) ∧ w.cell? ⟨k, 1, none⟩ = some (.bool q) ∧ w.cell? ⟨k, 2, none⟩ = some (.bool s) ∧ w.cell? ⟨k, 3, none⟩ = some (.bool b) :=
  ⟨by rw [Lib.cell_of_heap h]; rfl, by rw [Lib.cell_of_heap h]; rfl, by rw [Lib.cell_of_heap h]; rfl, by rw [Lib.cell_of_heap h]; rfl⟩
theorem rn_kept {w w' : World} {k : Nat} {t : ByteArray} {q s b : Bool} (h : RnBlk w k t q s b) (hk : Kp w w') : RnBlk w' k t q s b := hk k _ h fun c fz e he => by
  cases he
  exact ⟨by decide, by decide, by decide⟩
def RelA (B X K Bx : Nat) (t : ByteArray) (q s b : Bool) (w : World) (G : Fld) (wr : World) : Prop :=
  ∃ (pos : Nat) (F : Fld), wr.heap[K]? = some (.stringIter t pos) ∧ StF wr B X F ∧ Below B w wr ∧ Kp w wr ∧ RnBlk wr Bx t q s b ∧ F.puts q s (rest t pos) = G ∧ F.sz + (rest t pos).length ≤ 10000000
theorem sp_news2 (w : World) (a b : Value) (t : TypeId) : ∀ j u, ([a, b] : List Value)[j]? = some u → (w.alloc (.cells #[a, b] t)).drew.cell? ((⟨w.heap.size, 0, none⟩ : Addr).add j) = some u := fun j u hu => World.news_of_block (heap_alloc_new w _) j u (by simpa using hu)
theorem sp_one (a : Int) (b : Bool) : ∀ u ∈ ([.int .i32 a, .bool b] : List Value), u.oneCell' = true := fun u hu => by
  simp only [List.mem_cons, List.not_mem_nil, or_false] at hu
  rcases hu with rfl | rfl <;> rfl
set_option maxRecDepth 8000 in
set_option maxHeartbeats 4000000 in
theorem add_any (B X : Nat) (w : World) (f : Fld) (t : ByteArray) (q s b : Bool) (h : StF w B X f) (hB : B ≤ w.heap.size) (hl : f.sz + t.size + 1 ≤ 10000000) :
    Calls Tryd.prog 16 #[.pointer (some ⟨X, 0, none⟩), .agg #[.string t, .bool q, .bool s, .bool b]] w fun e w' => e = .returned (.tuple #[]) ∧ StF w' B X (f.add ⟨t, q, s, b⟩) ∧ Below B w w' ∧ Kp w w' := by
  obtain ⟨ve, vl, vs, h⟩ := h
  obtain ⟨W0, hW0⟩ : ∃ W0, w.alloc (.cells #[.string t, .bool q, .bool s, .bool b] 24) = W0 := ⟨_, rfl⟩
  have hbx : RnBlk W0 w.heap.size t q s b := by rw [← hW0]; exact heap_alloc_new w _
  have h0 : StV W0 B X ve vl vs f := by rw [← hW0]; exact h.kept (alloc_cells _)
  have hk0 : Kp w W0 := by rw [← hW0]; exact (Kp.refl w).alloc _
  have hb0 : Below B w W0 := by rw [← hW0]; exact (Below.refl B w).alloc hB _
  have hs0 : w.heap.size + 1 = W0.heap.size := by rw [← hW0]; simp
  obtain ⟨b0, b1, b2, b3⟩ := rn_cell hbx
  cases b
  · obtain ⟨c0, c1, c2, hfz⟩ := fd_cell h0.blk
    have f2 := hfz 2
    obtain ⟨bb, hbb⟩ : ∃ bb, f.begun = bb := ⟨_, rfl⟩
    obtain ⟨G, hG⟩ : ∃ G, f.add ⟨t, q, s, false⟩ = G := ⟨_, rfl⟩
    have hG2 : (f.opens q).puts q s (rest t 0) = G := by rw [← hG]; rfl
    rw [hG]
    have ho := h0.opens q
    rw [hbb] at c2 ho
    obtain ⟨W1, hW1⟩ : ∃ W1, W0.setCell ⟨X, 2, none⟩ (.bool (bb || q)) = W1 := ⟨_, rfl⟩
    rw [hW1] at ho
    have hneX : w.heap.size ≠ X := fun e => by have h1 := h0.blk; rw [FdBlk, ← e] at h1; rw [RnBlk, h1] at hbx; cases hbx
    have hbx1 : RnBlk W1 w.heap.size t q s false := by rw [← hW1]; exact (sp_other hneX _ _).trans hbx
    have hk1 : Kp w W1 := by rw [← hW1]; exact hk0.set h.blk
    have hb1 : Below B w W1 := by rw [← hW1]; exact hb0.setCell (p := ⟨X, 2, none⟩) h.low _
    have hs1 : w.heap.size + 1 = W1.heap.size := by rw [← hW1]; simpa using hs0
    have hz : (f.opens q).sz + (rest t 0).length ≤ 10000000 := by
      have h1 : (f.opens q).sz = f.sz := rfl
      have h2 := rest_length t 0
      omega
    obtain ⟨e0, e1, e2, e3⟩ := rn_cell hbx1
    have HS := Lib.hid (And.intro ho (And.intro hbx1 (And.intro hk1 (And.intro hb1 (And.intro hs1 (And.intro hG2 hz))))))
    have HBB := Lib.hid hB
    obtain ⟨i0, hi1, hi2, hi3, hi4⟩ := info_parts infoCh
    have HI := Lib.hid (And.intro hi1 (And.intro hi2 (And.intro hi3 hi4)))
    clear h h0 ho hbx hbx1 hk0 hk1 hb0 hb1 hs0 hs1 hG hG2 hz hl hbb hfz hB hi1 hi2 hi3 hi4
    cases bb
    all_goals
      simp only [Bool.true_or, Bool.false_or] at hW1
      go_enter Tryd.func16, Tryd.ntmps16
      go_wp2_with (first | (rw [hW0]; clear hW0) | (rw [hW1]; clear hW1))

      go_loopw [] (fun wr => RelA B X W1.heap.size w.heap.size t q s false w G wr) (fun wr => t.size - wr.iterPos W1.heap.size)
      case atStart =>
        obtain ⟨h1, h2, h3, h4, h5, h6, h7⟩ := HS.out
        exact ⟨0, _, World.iter_heap W1 t 0, ⟨_, _, _, h1.kept (alloc_cells _)⟩, h4.alloc (by have := HBB.out; have := HS.out.2.2.2.2.1; omega) _, h3.alloc _, alloc_cells _ _ _ _ _ h2, h6, h7⟩
      case round =>
        obtain ⟨pos, F, hk, ⟨ve', vl', vs', hf⟩, hb, hkp, hbx, hF, hz⟩ := hrel
        have HKB := Lib.hid HS.out.2.2.2.2.1
        obtain ⟨K, hK⟩ : ∃ K, W1.heap.size = K := ⟨_, rfl⟩
        rw [hK] at hk HKB ⊢
        clear hW1 hW0 b0 b1 b2 b3 c0 c1 c2 e0 e1 e2 e3 f2 hneX HS hK
        by_cases hp : pos < t.size
        · obtain ⟨r, d, hd⟩ : ∃ r d, Utf8.decode t pos = (r, d) := ⟨_, _, rfl⟩
          obtain ⟨W2, hW2⟩ : ∃ W2, wr.iterAt K t (pos + d) = W2 := ⟨_, rfl⟩
          have hnx : ∀ ty, (Instr.next (.pointer (some ⟨K, 0, none⟩)) true ty).run Tryd.prog wr = .ok (.tuple #[.bool true, .int .i64 pos, .int .i32 (r : Int)]) W2 := fun ty => by rw [Lib.run_next_any_at wr K t pos ty hk hp, hd, ← hW2]
          have hwd := width_pos t pos hp
          have hst := rest_step t pos hp
          rw [hd] at hst hwd
          simp only at hst hwd
          rw [hst, puts_cons] at hF
          rw [hst, List.length_cons] at hz
          have hf2 : StV W2 B X ve' vl' vs' F := by rw [← hW2]; exact hf.kept (iterAt_cells hk)
          have hbx2 : RnBlk W2 w.heap.size t q s false := by rw [← hW2]; exact iterAt_cells hk _ _ _ _ hbx
          have hk2 : Kp w W2 := by rw [← hW2]; exact hkp.iterAt (by have := HKB.out; omega)
          have hb2 : Below B w W2 := by rw [← hW2]; exact Lib.below_iterAt hb (by have := HKB.out; have := HBB.out; omega) _ _
          have hi2 : W2.heap[K]? = some (.stringIter t (pos + d)) := by rw [← hW2]; exact Lib.iterAt_heap _ _ _ _ _ hk
          have hps : wr.iterPos K = pos := by unfold World.iterPos; rw [hk]
          have hKlt : K < W2.heap.size := (Array.getElem?_eq_some_iff.1 hi2).1
          have hblt : w.heap.size < W2.heap.size := (Array.getElem?_eq_some_iff.1 hbx2).1
          obtain ⟨b0, b1, b2, b3⟩ := rn_cell hbx2
          obtain ⟨c0, c1, c2, hfz⟩ := fd_cell hf2.blk
          have HBK := Lib.hid (blank_any (r : Int) W2)
          obtain ⟨BK, hBK⟩ : ∃ BK, blankR (r : Int) = BK := ⟨_, rfl⟩
          rw [hBK] at HBK
          have HM := Lib.hid (show ∀ (W3 : World) , W3.heap[K]? = some (.stringIter t (pos + d)) → t.size - W3.iterPos K < t.size - wr.iterPos K from fun W3 h => by
            have e1 : W3.iterPos K = pos + d := by unfold World.iterPos; rw [h]
            rw [e1, hps]; omega)
          have HE := Lib.hid (end_any B X W2 F ⟨_, _, _, hf2⟩ (by have := HBB.out; omega) (by unfold Fld.sz at hz; omega))
          have HH := Lib.hid (And.intro hf2 (And.intro hbx2 (And.intro hk2 (And.intro hb2 hi2))))
          have HF := Lib.hid hF
          have HZ := Lib.hid hz
          have HBKE := Lib.hid hBK
          have HLT := Lib.hid (And.intro hKlt hblt)
          -- PUT
          obtain ⟨LN, hLN⟩ : ∃ n, F.last.length = n := ⟨_, rfl⟩
          have HLN := Lib.hid hLN
          have hLB : LN + 1 ≤ 10000000 := by unfold Fld.sz at hz; omega
          have HO := Lib.hid (show ∀ o, (W2.alloc o).drew.ownsRow B 48 2 vl' LN (F.last.flatMap cC) from fun o => by have := hf2.row.alloc o; unfold RowOf at this; rw [hLN] at this; exact this)
          have HL := Lib.hid (show LN + 1 ≤ maxLen ∧ (LN + 1) * 8 ≤ 140737488355328 from by unfold maxLen; omega)
          have HBS := Lib.hid (show ∀ o, B ≤ (W2.alloc o).drew.heap.size from fun o => by show _ ≤ (W2.alloc o).heap.size; simp; have := HBB.out; omega)
          have HSZ := Lib.hid (show ∀ o, (W2.alloc o).drew.heap.size = W2.heap.size + 1 from fun o => by show (W2.alloc o).heap.size = _; simp)
          have HNW := Lib.hid (sp_news2 W2 (.int .i32 (r : Int)) (.bool q) 48)
          have H1C := Lib.hid (sp_one (r : Int) q)
          have HAX := Lib.hid (show vl'.ownBlock ≠ some X from fun e => own_off hf2.row hf2.blk (fun c fz e => by cases e) e rfl)
          have HXLT := Lib.hid hf2.lt
          have HFB := Lib.hid hf2.blk
          have k1 : ∀ o, (W2.alloc o).cell? ⟨X, 1, none⟩ = some vl' := fun o => (World.cell?_alloc_lt _ _ _ hf2.lt).trans c1
          have kq : ∀ o, (W2.alloc o).cell? ⟨w.heap.size, 1, none⟩ = some (.bool q) := fun o => (World.cell?_alloc_lt _ _ _ hblt).trans b1
          clear hW2 hd hst hwd hp hk hf hb hkp hbx hF hz hf2 hbx2 hk2 hb2 hi2 hps hKlt hblt hBK hLN hLB hfz
          cases s
          · have HP := Lib.hid (show F.put q false r = ⟨F.ended, F.last ++ [((r : Int), q)], true⟩ from by unfold Fld.put; rw [HBKE.out]; rfl)
            clear HE
            go_wp2_with (go_at_call 20; (with_reducible refine HBK.out.mono ?_); rintro e w3 ⟨rfl, rfl⟩)
            go_region_law (refine step_append_lies _ (by rfl) (.tmp 44) (.tmp 49) 32 (by rfl) B 48 i0 (.agg #[.int .i32 0, .bool false]) 2 8 Tryd.underlying32 HI.out.1 HI.out.2.1 HI.out.2.2.1 HI.out.2.2.2 (by rfl) (by decide) vl' LN (F.last.flatMap cC) (by rfl) (HO.out _) ⟨W2.heap.size, 0, none⟩ 1 1 [.int .i32 (r : Int), .bool q] (by rfl) (by rfl) HNW.out H1C.out (by decide) HL.out.1 HL.out.2 (HBS.out _) (W2.heap.size + 1) (HSZ.out _) ?_; intro g cap w1 hown hgrow hat hglt; have hb1 := (sp_grown hgrow X HXLT.out HAX.out).trans HFB.out; obtain ⟨d0, d1, d2, dfz⟩ := fd_cell hb1; have f0 := dfz 0; have f1 := dfz 1; have f2 := dfz 2; have HOW := Lib.hid hown; have HGR := Lib.hid hgrow; have HB1 := Lib.hid hb1; have HAT := Lib.hid hat; clear hown hgrow hat hglt hb1 dfz)
            all_goals
              clear k1 kq c0 c1 c2 b0 b1 b2 b3 hnx
              go_wp2_with fail
              have hk : ∀ (u v : Value) k, k < W2.heap.size → k ≠ X → vl'.ownBlock ≠ some k → ((w1.setCell ⟨X, 1, none⟩ u).setCell ⟨X, 2, none⟩ v).heap[k]? = W2.heap[k]? := fun u v k h1 h2 h3 => (sp_other h2 _ _).trans ((sp_other h2 _ _).trans (sp_grown HGR.out k h1 h3))
              obtain ⟨hf2, hbx2, hk2, hb2, hi2⟩ := HH.out
              have hKX : K ≠ X := fun e => by have h1 := hf2.blk; rw [FdBlk, ← e] at h1; rw [h1] at hi2; cases hi2
              have hbX : w.heap.size ≠ X := blk_ne hbx2 hf2.blk (by decide)
              have hi3 : ((w1.setCell ⟨X, 1, none⟩ (.slice (some ⟨g, 0, none⟩) (LN + 1) cap)).setCell ⟨X, 2, none⟩ (.bool true)).heap[K]? = some (.stringIter t (pos + d)) := (hk _ _ K HLT.out.1 hKX (fun e => own_off hf2.row hi2 (fun c fz e => by cases e) e rfl)).trans hi2
              have hbx3 : RnBlk ((w1.setCell ⟨X, 1, none⟩ (.slice (some ⟨g, 0, none⟩) (LN + 1) cap)).setCell ⟨X, 2, none⟩ (.bool true)) w.heap.size t q false false := (hk _ _ w.heap.size HLT.out.2 hbX (fun e => own_off hf2.row hbx2 (fun c fz e => by cases e) e rfl)).trans hbx2
              have hS : StF ((w1.setCell ⟨X, 1, none⟩ (.slice (some ⟨g, 0, none⟩) (LN + 1) cap)).setCell ⟨X, 2, none⟩ (.bool true)) B X (F.put q false r) := by
                rw [HP.out]
                refine StV.put (g := g) (cap := cap) hf2 (by rw [HLN.out]; exact sp_set (sp_set HB1.out 1 _) 2 _) ?_ (hk _ _) (HAT.out.imp id fun e => by omega)
                rw [HLN.out]
                exact own_same (own_same HOW.out fun k e => sp_other (own_off HOW.out HB1.out (fun c fz e => by cases e) e) _ _) fun k e => sp_other (own_off HOW.out HB1.out (fun c fz e => by cases e) e) _ _
              go_roundw
              case rel =>
                refine ⟨pos + d, _, hi3, hS, hb2.trans (((sp_below (by have := HBB.out; have := HLT.out.2; omega) HGR.out (fun k e => (World.ownsRow.lt hf2.row k e).1)).setCell (p := ⟨X, 1, none⟩) hf2.low _).setCell (p := ⟨X, 2, none⟩) hf2.low _), hk2.trans (Kp.of hf2.blk hf2.row (.inr rfl) (hk _ _)), hbx3, HF.out, ?_⟩
                have h1 := put_sz q false F r
                have h2 := HZ.out
                omega
              case measure => exact HM.out _ hi3
          · cases q
            · cases BK
              · have HP := Lib.hid (show F.put false true r = ⟨F.ended, F.last ++ [((r : Int), false)], true⟩ from by unfold Fld.put; rw [HBKE.out]; rfl)
                clear HE
                go_wp2_with (go_at_call 20; (with_reducible refine HBK.out.mono ?_); rintro e w3 ⟨rfl, rfl⟩)
                go_region_law (refine step_append_lies _ (by rfl) (.tmp 44) (.tmp 49) 32 (by rfl) B 48 i0 (.agg #[.int .i32 0, .bool false]) 2 8 Tryd.underlying32 HI.out.1 HI.out.2.1 HI.out.2.2.1 HI.out.2.2.2 (by rfl) (by decide) vl' LN (F.last.flatMap cC) (by rfl) (HO.out _) ⟨W2.heap.size, 0, none⟩ 1 1 [.int .i32 (r : Int), .bool false] (by rfl) (by rfl) HNW.out H1C.out (by decide) HL.out.1 HL.out.2 (HBS.out _) (W2.heap.size + 1) (HSZ.out _) ?_; intro g cap w1 hown hgrow hat hglt; have hb1 := (sp_grown hgrow X HXLT.out HAX.out).trans HFB.out; obtain ⟨d0, d1, d2, dfz⟩ := fd_cell hb1; have f0 := dfz 0; have f1 := dfz 1; have f2 := dfz 2; have HOW := Lib.hid hown; have HGR := Lib.hid hgrow; have HB1 := Lib.hid hb1; have HAT := Lib.hid hat; clear hown hgrow hat hglt hb1 dfz)
                all_goals
                  clear k1 kq c0 c1 c2 b0 b1 b2 b3 hnx
                  go_wp2_with fail
                  have hk : ∀ (u v : Value) k, k < W2.heap.size → k ≠ X → vl'.ownBlock ≠ some k → ((w1.setCell ⟨X, 1, none⟩ u).setCell ⟨X, 2, none⟩ v).heap[k]? = W2.heap[k]? := fun u v k h1 h2 h3 => (sp_other h2 _ _).trans ((sp_other h2 _ _).trans (sp_grown HGR.out k h1 h3))
                  obtain ⟨hf2, hbx2, hk2, hb2, hi2⟩ := HH.out
                  have hKX : K ≠ X := fun e => by have h1 := hf2.blk; rw [FdBlk, ← e] at h1; rw [h1] at hi2; cases hi2
                  have hbX : w.heap.size ≠ X := blk_ne hbx2 hf2.blk (by decide)
                  have hi3 : ((w1.setCell ⟨X, 1, none⟩ (.slice (some ⟨g, 0, none⟩) (LN + 1) cap)).setCell ⟨X, 2, none⟩ (.bool true)).heap[K]? = some (.stringIter t (pos + d)) := (hk _ _ K HLT.out.1 hKX (fun e => own_off hf2.row hi2 (fun c fz e => by cases e) e rfl)).trans hi2
                  have hbx3 : RnBlk ((w1.setCell ⟨X, 1, none⟩ (.slice (some ⟨g, 0, none⟩) (LN + 1) cap)).setCell ⟨X, 2, none⟩ (.bool true)) w.heap.size t false true false := (hk _ _ w.heap.size HLT.out.2 hbX (fun e => own_off hf2.row hbx2 (fun c fz e => by cases e) e rfl)).trans hbx2
                  have hS : StF ((w1.setCell ⟨X, 1, none⟩ (.slice (some ⟨g, 0, none⟩) (LN + 1) cap)).setCell ⟨X, 2, none⟩ (.bool true)) B X (F.put false true r) := by
                    rw [HP.out]
                    refine StV.put (g := g) (cap := cap) hf2 (by rw [HLN.out]; exact sp_set (sp_set HB1.out 1 _) 2 _) ?_ (hk _ _) (HAT.out.imp id fun e => by omega)
                    rw [HLN.out]
                    exact own_same (own_same HOW.out fun k e => sp_other (own_off HOW.out HB1.out (fun c fz e => by cases e) e) _ _) fun k e => sp_other (own_off HOW.out HB1.out (fun c fz e => by cases e) e) _ _
                  go_roundw
                  case rel =>
                    refine ⟨pos + d, _, hi3, hS, hb2.trans (((sp_below (by have := HBB.out; have := HLT.out.2; omega) HGR.out (fun k e => (World.ownsRow.lt hf2.row k e).1)).setCell (p := ⟨X, 1, none⟩) hf2.low _).setCell (p := ⟨X, 2, none⟩) hf2.low _), hk2.trans (Kp.of hf2.blk hf2.row (.inr rfl) (hk _ _)), hbx3, HF.out, ?_⟩
                    have h1 := put_sz false true F r
                    have h2 := HZ.out
                    omega
                  case measure => exact HM.out _ hi3
              · have HP := Lib.hid (show F.put false true r = F.fin from by unfold Fld.put; rw [HBKE.out]; rfl)
                clear HO HL HBS HSZ HNW H1C k1 kq
                go_wp2_with (first
                  | (go_at_call 20; (with_reducible refine HBK.out.mono ?_); rintro e w3 ⟨rfl, rfl⟩)
                  | (go_at_call 17; (with_reducible refine HE.out.mono ?_); rintro e w1 ⟨rfl, hs1, hb1, hk1⟩; have H1 := Lib.hid (And.intro hs1 (And.intro hb1 hk1)); clear hs1 hb1 hk1))
                have hi3 := H1.out.2.2.iter HH.out.2.2.2.2
                go_roundw
                case rel =>
                  refine ⟨pos + d, _, hi3, H1.out.1, HH.out.2.2.2.1.trans H1.out.2.1, HH.out.2.2.1.trans H1.out.2.2, rn_kept HH.out.2.1 H1.out.2.2, by rw [← HP.out]; exact HF.out, ?_⟩
                  have h1 := put_sz false true F r
                  rw [HP.out] at h1
                  have h2 := HZ.out
                  omega
                case measure => exact HM.out _ hi3
            · have HP := Lib.hid (show F.put true true r = ⟨F.ended, F.last ++ [((r : Int), true)], true⟩ from by unfold Fld.put; rw [HBKE.out]; rfl)
              clear HE
              go_wp2_with (go_at_call 20; (with_reducible refine HBK.out.mono ?_); rintro e w3 ⟨rfl, rfl⟩)
              go_region_law (refine step_append_lies _ (by rfl) (.tmp 44) (.tmp 49) 32 (by rfl) B 48 i0 (.agg #[.int .i32 0, .bool false]) 2 8 Tryd.underlying32 HI.out.1 HI.out.2.1 HI.out.2.2.1 HI.out.2.2.2 (by rfl) (by decide) vl' LN (F.last.flatMap cC) (by rfl) (HO.out _) ⟨W2.heap.size, 0, none⟩ 1 1 [.int .i32 (r : Int), .bool true] (by rfl) (by rfl) HNW.out H1C.out (by decide) HL.out.1 HL.out.2 (HBS.out _) (W2.heap.size + 1) (HSZ.out _) ?_; intro g cap w1 hown hgrow hat hglt; have hb1 := (sp_grown hgrow X HXLT.out HAX.out).trans HFB.out; obtain ⟨d0, d1, d2, dfz⟩ := fd_cell hb1; have f0 := dfz 0; have f1 := dfz 1; have f2 := dfz 2; have HOW := Lib.hid hown; have HGR := Lib.hid hgrow; have HB1 := Lib.hid hb1; have HAT := Lib.hid hat; clear hown hgrow hat hglt hb1 dfz)
              all_goals
                clear k1 kq c0 c1 c2 b0 b1 b2 b3 hnx
                go_wp2_with fail
                have hk : ∀ (u v : Value) k, k < W2.heap.size → k ≠ X → vl'.ownBlock ≠ some k → ((w1.setCell ⟨X, 1, none⟩ u).setCell ⟨X, 2, none⟩ v).heap[k]? = W2.heap[k]? := fun u v k h1 h2 h3 => (sp_other h2 _ _).trans ((sp_other h2 _ _).trans (sp_grown HGR.out k h1 h3))
                obtain ⟨hf2, hbx2, hk2, hb2, hi2⟩ := HH.out
                have hKX : K ≠ X := fun e => by have h1 := hf2.blk; rw [FdBlk, ← e] at h1; rw [h1] at hi2; cases hi2
                have hbX : w.heap.size ≠ X := blk_ne hbx2 hf2.blk (by decide)
                have hi3 : ((w1.setCell ⟨X, 1, none⟩ (.slice (some ⟨g, 0, none⟩) (LN + 1) cap)).setCell ⟨X, 2, none⟩ (.bool true)).heap[K]? = some (.stringIter t (pos + d)) := (hk _ _ K HLT.out.1 hKX (fun e => own_off hf2.row hi2 (fun c fz e => by cases e) e rfl)).trans hi2
                have hbx3 : RnBlk ((w1.setCell ⟨X, 1, none⟩ (.slice (some ⟨g, 0, none⟩) (LN + 1) cap)).setCell ⟨X, 2, none⟩ (.bool true)) w.heap.size t true true false := (hk _ _ w.heap.size HLT.out.2 hbX (fun e => own_off hf2.row hbx2 (fun c fz e => by cases e) e rfl)).trans hbx2
                have hS : StF ((w1.setCell ⟨X, 1, none⟩ (.slice (some ⟨g, 0, none⟩) (LN + 1) cap)).setCell ⟨X, 2, none⟩ (.bool true)) B X (F.put true true r) := by
                  rw [HP.out]
                  refine StV.put (g := g) (cap := cap) hf2 (by rw [HLN.out]; exact sp_set (sp_set HB1.out 1 _) 2 _) ?_ (hk _ _) (HAT.out.imp id fun e => by omega)
                  rw [HLN.out]
                  exact own_same (own_same HOW.out fun k e => sp_other (own_off HOW.out HB1.out (fun c fz e => by cases e) e) _ _) fun k e => sp_other (own_off HOW.out HB1.out (fun c fz e => by cases e) e) _ _
                go_roundw
                case rel =>
                  refine ⟨pos + d, _, hi3, hS, hb2.trans (((sp_below (by have := HBB.out; have := HLT.out.2; omega) HGR.out (fun k e => (World.ownsRow.lt hf2.row k e).1)).setCell (p := ⟨X, 1, none⟩) hf2.low _).setCell (p := ⟨X, 2, none⟩) hf2.low _), hk2.trans (Kp.of hf2.blk hf2.row (.inr rfl) (hk _ _)), hbx3, HF.out, ?_⟩
                  have h1 := put_sz true true F r
                  have h2 := HZ.out
                  omega
                case measure => exact HM.out _ hi3
        · have hnx : ∀ ty, (Instr.next (.pointer (some ⟨K, 0, none⟩)) true ty).run Tryd.prog wr = _ := fun ty => Lib.run_next_end_at wr K t pos ty hk hp
          rw [rest_end t pos hp] at hF
          have HF := Lib.hid (show F = G from hF)
          have HH := Lib.hid (And.intro (show StF wr B X F from ⟨_, _, _, hf⟩) (And.intro hb hkp))
          clear hk hf hb hkp hbx hF hz hp
          go_wp2_with fail
          go_end0
          rw [← HF.out]
          exact ⟨rfl, HH.out.1, HH.out.2.1, HH.out.2.2⟩
  · have HE := Lib.hid (end_any B X W0 f ⟨_, _, _, h0⟩ (by have := hb0.size; omega) (by unfold Fld.sz at hl; omega))
    have HH := Lib.hid (And.intro hb0 hk0)
    clear h h0 hbx hk0 hb0 hs0 hl hB
    go_enter Tryd.func16, Tryd.ntmps16
    go_wp2_with (first | (rw [hW0]; clear hW0) | (go_at_call 17; refine HE.out.mono ?_; rintro e w1 ⟨rfl, hs1, hb1, hk1⟩; have H1 := Lib.hid (And.intro hs1 (And.intro hb1 hk1)); clear hs1 hb1 hk1))
    refine bodyPost_ret (results_none rfl _ _ _) rfl ?_
    exact ⟨rfl, H1.out.1, HH.out.1.trans H1.out.2.1, HH.out.2.trans H1.out.2.2⟩
end Go.Proofs.YtfepkhlifpbkfaaDoor
