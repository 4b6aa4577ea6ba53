/-
  Proved: span's writeBytes: the rows of bytes are written to the sectors behind one, up to the first that is not well. Conditions: the bytes can be read and are no part of the disk; fewer than 2^31 of them.
-/
import Derived.Test.YtilplpjdbkipoaaGreatDoorSpanMem
namespace Go.Proofs.YtilplpjdbkipoaaGreatDoor
open Go Go.RowKit Go.Shelf DiskMath NetMem SpanMath

attribute [local go_sem] Oper.semAt_some

theorem kept_putObj {B1 B2 n : Nat} (h1 : B1 < n) (h2 : B2 < n) (W : World) (l : Nat) (o o' : Obj) (hl : n ≤ l) (_ : W.heap[l]? = some o) (_ : o.isCells = false) (_ : o.isWalk = false) : KeptB B1 B2 W (W.putObj l o') :=
  ⟨World.putObj_heap_other (by omega), World.putObj_heap_other (by omega)⟩

/-- Between two rounds: the rows so far are written, all of them well. -/
def RowsI (D : Nat → Prop) (p : Value) (d : Dk) (at_ : Int) (l : List UInt8) (w : World) (pre : List (Fin (cnt l.length))) (W : World) : Prop :=
  ∃ d' D', putRows at_ (pre.map fun x => chunk l x.1) d = (0, d') ∧ DiskAt W D' p d' ∧ (∀ k, D' k → D k ∨ w.heap.size + 5 ≤ k) ∧
    Boxed W w.heap.size 27 p ∧ Boxed W (w.heap.size + 1) 3 (.int .i64 (at_ + (pre.length : Int))) ∧ Boxed W (w.heap.size + 2) 37 (.int .i64 0) ∧ Kept D w W ∧ w.heap.size + 5 ≤ W.heap.size
/-- A round has left: its row was not well. -/
def RowsX (D : Nat → Prop) (p : Value) (d : Dk) (at_ : Int) (l : List UInt8) (w : World) (c : Code) (pre : List (Fin (cnt l.length))) (W : World) : Prop :=
  c = .ret ∧ ∃ e d' D', putRows at_ (pre.map fun x => chunk l x.1) d = (e, d') ∧ e ≠ 0 ∧ DiskAt W D' p d' ∧ (∀ k, D' k → D k ∨ w.heap.size + 5 ≤ k) ∧ Boxed W (w.heap.size + 2) 37 (.int .i64 e) ∧ Kept D w W

theorem kept_own (D : Nat → Prop) (w : World) {β : Type} (B : Nat) (hB : w.heap.size ≤ B) : OwnFrom B (fun (_ : β) W => Kept D w W) :=
  fun _ X Y row hs hg hr => hs.grown hg fun k hk => .inr (by have := (hr k hk).1; omega)
theorem rowsI_own (D : Nat → Prop) (p : Value) (d : Dk) (at_ : Int) (l : List UInt8) (w : World) (B : Nat) (hB : w.heap.size ≤ B) : OwnFrom B (RowsI D p d at_ l w) := by
  rintro pre X Y row ⟨d', D', h1, h2, h3, b1, b2, b3, hk, hs⟩ hg hr
  have hr' : ∀ r, row = some r → ∃ o : Obj, X.heap[r]? = some o ∧ o.isCells = false := fun r e => (hr r e).2
  have hbox : ∀ {k : Nat} {t : TypeId} {v : Value}, Boxed X k t v → Boxed Y k t v := fun hb => hb.kept hg fun e => by
    obtain ⟨o, ho, hc⟩ := hr' _ e.symm
    rw [show X.heap[_]? = _ from hb] at ho; cases ho; cases hc
  exact ⟨d', D', h1, h2.grown hg hr', h3, hbox b1, hbox b2, hbox b3, hk.grown hg fun k hk => .inr (by have := (hr k hk).1; omega), Nat.le_trans hs hg.size⟩
theorem rowsX_own (D : Nat → Prop) (p : Value) (d : Dk) (at_ : Int) (l : List UInt8) (w : World) (B : Nat) (hB : w.heap.size ≤ B) (c : Code) : OwnFrom B (RowsX D p d at_ l w c) := by
  rintro pre X Y row ⟨hc, e, d', D', h1, h0, h2, h3, b3, hk⟩ hg hr
  have hr' : ∀ r, row = some r → ∃ o : Obj, X.heap[r]? = some o ∧ o.isCells = false := fun r e => (hr r e).2
  have hbox : Boxed Y (w.heap.size + 2) 37 (.int .i64 e) := b3.kept hg fun e => by
    obtain ⟨o, ho, hc⟩ := hr' _ e.symm
    rw [show X.heap[_]? = _ from b3] at ho; cases ho; cases hc
  exact ⟨hc, e, d', D', h1, h0, h2.grown hg hr', h3, hbox, hk.grown hg fun k hk => .inr (by have := (hr k hk).1; omega)⟩

set_option maxRecDepth 100000 in
set_option maxHeartbeats 2000000 in
theorem writeBytes_at {w : World} {D : Nat → Prop} {p : Value} {d : Dk} (h : DiskAt w D p d) (at_ : Int) (ha : -9223372036854775808 ≤ at_) (hb : at_ ≤ 4611686018427387904) (q : Option Addr) (c : Nat) (l : List UInt8) (hr : RowO w D (.slice q l.length c) l)
    (hl : l.length ≤ 2147483648) (hn : d.n + l.length < 4611686018427387904) (hp : d.p.length + l.length < 4294967296) :
    Calls Tryz.prog 44 #[p, .int .i64 at_, .slice q l.length c] w fun e w' => e = .returned (.int .i64 (putRows at_ (rowsOf l) d).1) ∧ Step D w w' p (putRows at_ (rowsOf l) d).2 := by
  obtain ⟨g0, rfl⟩ : ∃ g0, p = .pointer (some g0) := by
    obtain ⟨g, s, pv, lv, rfl, -⟩ := h
    exact ⟨_, rfl⟩
  have HD := Lib.hid (And.intro h (And.intro hr (And.intro hl (And.intro hn hp))))
  have HA := Lib.hid (And.intro ha hb)
  clear h hr hl hn hp ha hb
  refine (callsIn_wide (n := 4)).1 ?_
  refine callsIn_of_wp_marks Tryz.func44 rfl trivial ?_ rfl
  simp only [Tryz.ntmps44, List.size_toArray, List.length_cons, List.length_nil, Nat.reduceAdd, Nat.reduceSub, Array.replicate_succ, Array.replicate_zero, List.push_toArray, List.append_toArray, List.nil_append, List.cons_append]
  gi_wp2_with (refine ⟨trivial, ?_⟩; gi_at_call 65; refine (callsIn_wide.2 (chunk_any _ _ _ _)).mono ?_; rintro e w1 ⟨rfl, rfl⟩)
  obtain ⟨b, o, hq⟩ : ∃ b o, 0 < l.length → q = some ⟨b, o, none⟩ ∧ ∀ i (h : i < l.length), w.cell? ⟨b, o + i, none⟩ = some (.int .u8 (l[i].toNat : Int)) := by
    obtain ⟨-, h1, -, h3⟩ := Row.nums HD.out.2.1.1
    by_cases h0 : 0 < c
    · obtain ⟨b, o, e, hc⟩ := h3 h0
      exact ⟨b, o, fun _ => ⟨e, hc⟩⟩
    · exact ⟨0, 0, fun h => absurd h (by omega)⟩
  have HQ := Lib.hid hq
  clear hq
  obtain ⟨W0, hW0⟩ : ∃ W0, W0 = (((((w.alloc (.cells #[.pointer (some g0)] 27)).alloc (.cells #[.int .i64 at_] 3)).alloc (.cells #[.int .i64 0] 37)).alloc (.cells #[.slice q l.length c] 56)).alloc (.cells #[.int .i64 16] 3)) := ⟨_, rfl⟩
  have hsz : W0.heap.size = w.heap.size + 5 := by rw [hW0]; simp
  have x1 : Boxed W0 w.heap.size 27 (.pointer (some g0)) := by rw [hW0]; exact ((((Boxed.new w _ _).alloc _).alloc _).alloc _).alloc _
  have x2 : Boxed W0 (w.heap.size + 1) 3 (.int .i64 at_) := by
    rw [hW0]
    have := Boxed.new (w.alloc (.cells #[.pointer (some g0)] 27)) 3 (.int .i64 at_)
    rw [World.size_alloc] at this
    exact ((this.alloc _).alloc _).alloc _
  have x3 : Boxed W0 (w.heap.size + 2) 37 (.int .i64 0) := by
    rw [hW0]
    have := Boxed.new ((w.alloc (.cells #[.pointer (some g0)] 27)).alloc (.cells #[.int .i64 at_] 3)) 37 (.int .i64 0)
    rw [World.size_alloc, World.size_alloc] at this
    exact (this.alloc _).alloc _
  have x4 : Boxed W0 (w.heap.size + 3) 56 (.slice q l.length c) := by
    rw [hW0]
    have := Boxed.new (((w.alloc (.cells #[.pointer (some g0)] 27)).alloc (.cells #[.int .i64 at_] 3)).alloc (.cells #[.int .i64 0] 37)) 56 (.slice q l.length c)
    rw [World.size_alloc, World.size_alloc, World.size_alloc] at this
    exact this.alloc _
  have x5 : Boxed W0 (w.heap.size + 4) 3 (.int .i64 16) := by
    rw [hW0]
    have := Boxed.new ((((w.alloc (.cells #[.pointer (some g0)] 27)).alloc (.cells #[.int .i64 at_] 3)).alloc (.cells #[.int .i64 0] 37)).alloc (.cells #[.slice q l.length c] 56)) 3 (.int .i64 16)
    rw [World.size_alloc, World.size_alloc, World.size_alloc, World.size_alloc] at this
    exact this
  have hbw : Below w.heap.size w W0 := by
    rw [hW0]
    exact (((((Below.refl _ w).alloc (Nat.le_refl _) _).alloc (by simp) _).alloc (by simp; omega) _).alloc (by simp; omega) _).alloc (by simp; omega) _
  rw [← hW0]
  clear hW0
  obtain ⟨-, hlc, hcm, -⟩ := Row.nums HD.out.2.1.1
  refine wpIn_rangeFunc_ownG rfl (by omega) (gf := 81) (lb := #[.pointer (some ⟨w.heap.size + 3, 0, none⟩), .pointer (some ⟨w.heap.size + 4, 0, none⟩)]) rfl trivial (enters_of Tryz.func81 (by kernel_rfl) rfl)
    (chunk_stops _ (by omega) (w.heap.size + 3) (w.heap.size + 4) b o l.length c q (fun h => (HQ.out h).1) hlc hcm (by have := HD.out.2.2.1; omega) W0 x4.cell x5.cell) (fun h k => h.trans k) (kept_putObj (by omega) (by omega)) (Below.refl _ _) (fun _ => rfl)
    (RowsI D (.pointer (some g0)) d at_ l w) (RowsX D (.pointer (some g0)) d at_ l w) (rowsI_own D _ d at_ l w _ (by omega)) (rowsX_own D _ d at_ l w _ (by omega))
    ⟨d, D, rfl, HD.out.1.below hbw, fun _ h => .inl h, x1, by simpa using x2, x3, Kept.of_below hbw, by omega⟩
    (fun x => { tmps := #[.pointer (some g0), .int .i64 at_, .slice q l.length c, .pointer (some ⟨w.heap.size, 0, none⟩), .pointer (some ⟨w.heap.size + 1, 0, none⟩), undef, .pointer (some ⟨w.heap.size + 2, 0, none⟩), chunkV b o l.length x.1, undef, undef, .slice q l.length c,
      .func (.func 81) #[] #[.pointer (some ⟨w.heap.size + 3, 0, none⟩), .pointer (some ⟨w.heap.size + 4, 0, none⟩)], chunkV b o l.length x.1, undef, undef, undef, undef, undef, undef, undef, undef, undef, undef, undef, undef], defers := [] }) ?assign ?body ?done ?stop
  case assign =>
    intro lp x W K hK
    gi_wp2
    exact hK
  case body =>
    rintro lp pre x V ⟨d', D', h1, h2, h3, b1, b2, b3, hk, hs⟩ hlen
    obtain ⟨E, hE, hED, hEl⟩ := h2.tight
    have hx16 : 16 * x.1 < l.length := (cnt_lt _ _).1 x.2
    have hlr := HD.out.2.2.1
    have hlb : pre.length < 4294967296 := by have := cnt_self l.length; omega
    have ha1 := HA.out.1
    have ha2 := HA.out.2
    have c3 := b1.cell
    have c4 := b2.cell
    have f4 := b2.frozen
    have HX := Lib.hid (And.intro h1 (And.intro h2 (And.intro h3 (And.intro b1 (And.intro b2 (And.intro b3 (And.intro hk (And.intro hs (And.intro hE (And.intro hED (And.intro hEl hx16)))))))))))
    clear h1 h2 h3 b1 b2 b3 hk hs hE hED hEl hx16 hlr
    obtain ⟨W1, hW1⟩ : ∃ W1, W1 = V.setCell ⟨w.heap.size + 1, 0, none⟩ (.int .i64 (at_ + (pre.length : Int) + 1)) := ⟨_, rfl⟩
    have hs1 : W1.heap.size = V.heap.size := by rw [hW1]; simp [World.setCell]
    have y1 : Boxed W1 w.heap.size 27 (.pointer (some g0)) := by rw [hW1]; exact HX.out.2.2.2.1.other (by omega) _
    have y2 : Boxed W1 (w.heap.size + 1) 3 (.int .i64 (at_ + (pre.length : Int) + 1)) := by rw [hW1]; exact HX.out.2.2.2.2.1.set _
    have y3 : Boxed W1 (w.heap.size + 2) 37 (.int .i64 0) := by rw [hW1]; exact HX.out.2.2.2.2.2.1.other (by omega) _
    have hEw : ∀ k, E k → D k ∨ w.heap.size + 5 ≤ k := fun k hk => HX.out.2.2.1 k (HX.out.2.2.2.2.2.2.2.2.2.1 k hk)
    have hDw : ∀ k, D k → k < w.heap.size := fun k hk => HD.out.1.lt hk
    have hk1 : Kept (fun k => k = w.heap.size + 1) V W1 := by rw [hW1]; exact (Kept.refl (fun k => k = w.heap.size + 1) V).setCell (p := ⟨w.heap.size + 1, 0, none⟩) (.inl rfl) _
    have hd1 : DiskAt W1 E (.pointer (some g0)) d' := HX.out.2.2.2.2.2.2.2.2.1.far hk1 fun k hk e => by subst e; rcases hEw _ hk with h | h; have := hDw _ h; omega; omega
    have hKw1 : Kept D w W1 := by rw [hW1]; exact HX.out.2.2.2.2.2.2.1.setCell (.inr (by simp)) _
    -- the bytes of the row
    obtain ⟨cs, hcs⟩ : ∃ cs, cs = Lib.byteCells ((l.drop (16 * x.1)).take 16) := ⟨_, rfl⟩
    have hx16 := HX.out.2.2.2.2.2.2.2.2.2.2.2
    have hcl : cs.length = Nat.min (min 16 (l.length - 16 * x.1)) 16 := by
      have e : ∀ a : Nat, Nat.min (min 16 a) 16 = min 16 a := fun a => by show min (min 16 a) 16 = _; omega
      rw [hcs, bl, List.length_take, List.length_drop, e]
    have hsrc : ∀ j v, cs[j]? = some v → (W1.alloc (.cells (madeCells #[.int .u8 0] 16) 86)).cell? ((⟨b, o + 16 * x.1, none⟩ : Addr).add j) = some v := fun j v hv => by
      rw [hcs] at hv
      have hj : j < ((l.drop (16 * x.1)).take 16).length := by have := (List.getElem?_eq_some_iff.1 hv).1; rwa [bl] at this
      have hj2 : 16 * x.1 + j < l.length := by rw [List.length_take, List.length_drop] at hj; omega
      rw [bc_at _ j hj] at hv
      obtain ⟨hq, hc⟩ := HQ.out (by omega)
      have hc' := hKw1.cell (hc _ hj2) (HD.out.2.1.2 b o _ _ (by rw [hq]) (by omega))
      rw [← Nat.add_assoc] at hc'
      rw [Lib.add_plain, World.cell?_alloc_lt _ _ _ (World.block_lt_of_cell? W1 _ hc'), ← hv, List.getElem_take, List.getElem_drop]
      exact hc'
    have hth : (W1.alloc (.cells (madeCells #[.int .u8 0] 16) 86)).there W1.heap.size 0 cs.length := fun j hj => by
      rw [hcl] at hj
      have e : ∀ a : Nat, Nat.min (min 16 a) 16 ≤ 16 := fun a => by show min (min 16 a) 16 ≤ 16; omega
      have := e (l.length - 16 * x.1)
      refine ⟨?_, new_free _ _ _ _⟩
      rw [new_cell, Nat.zero_add]
      have : j < (madeCells #[Value.int .u8 0] 16).size := by rw [size_madeCells]; omega
      simp [this]
    have ho1 : ∀ v ∈ cs, v.oneCell' = true := by rw [hcs]; exact oneCell_bytes _
    rw [zeros16] at hsrc hth
    have HC := Lib.hid (And.intro hcl (And.intro hsrc (And.intro hth ho1)))
    have HY := Lib.hid (And.intro y1 (And.intro y2 (And.intro y3 (And.intro hd1 (And.intro hKw1 (And.intro hk1 (And.intro hEw (And.intro hDw hs1))))))))
    have HW := Lib.hid (And.intro hW1 hcs)
    clear y1 y2 y3 hd1 hKw1 hk1 hEw hDw hs1 hx16 hcl hsrc hth ho1 hW1 hcs
    gi_wp2_with (rw [← HW.out.1]; refine wpListIn_copy_cells (by rfl) (.tmp 15) (.tmp 16) 56 56 (by rfl) 5 Tryz.underlying56 sizeByte W1.heap.size 0 16 16 ⟨b, o + 16 * x.1, none⟩ (min 16 (l.length - 16 * x.1)) (min 16 (l.length - 16 * x.1)) (by first | rfl | (rw [HY.out.2.2.2.2.2.2.2.2]; rfl)) (by rfl) cs HC.out.1 HC.out.2.1 HC.out.2.2.1 HC.out.2.2.2 ?_)
    obtain ⟨W2, hW2⟩ : ∃ W2, W2 = (W1.alloc (.cells #[.int .u8 0, .int .u8 0, .int .u8 0, .int .u8 0, .int .u8 0, .int .u8 0, .int .u8 0, .int .u8 0, .int .u8 0, .int .u8 0, .int .u8 0, .int .u8 0, .int .u8 0, .int .u8 0, .int .u8 0, .int .u8 0] 86)).setCells W1.heap.size 0 cs := ⟨_, rfl⟩
    have hk2 : Kept (fun _ => False) W1 W2 := by rw [hW2]; exact ((Kept.refl (fun _ => False) W1).alloc _).setCells (.inr (Nat.le_refl _)) _ _
    have hs2 : W1.heap.size < W2.heap.size := by rw [hW2, (setCells_same _ _ _ _).2.2.2.1]; simp
    have ko2 : KeepsOthers W1 W2 := by rw [hW2]; exact (KeepsOthers.alloc _ _).trans (KeepsOthers.setCells _ _ _ _)
    have hbx : ∀ {k : Nat} {t : TypeId} {v : Value}, Boxed W1 k t v → Boxed W2 k t v := fun hb => (hk2.block _ hb.lt (fun h => h)).trans hb
    have hrow : Row W2 (.slice (some ⟨V.heap.size, 0, none⟩) 16 16) (chunk l x.1) := by
      have := padded_own W1 86 (l.drop (16 * x.1))
      rw [zeros16, ← HW.out.2, ← hW2, HY.out.2.2.2.2.2.2.2.2] at this
      exact this.row
    have z1 := (hbx HY.out.1).cell
    have z2 := (hbx HY.out.2.1).cell
    rw [← hW2]
    have HZ := Lib.hid (And.intro hk2 (And.intro hs2 (And.intro ko2 (And.intro hrow (And.intro (hbx HY.out.1) (And.intro (hbx HY.out.2.1) (hbx HY.out.2.2.1)))))))
    clear hk2 hs2 ko2 hrow hbx hW2
    have hd3 : DiskAt W2.drew E (.pointer (some g0)) d' := (HY.out.2.2.2.1.far HZ.out.1 fun _ _ h => h).far (E := fun _ => False) ((Kept.refl _ W2).drew) fun _ _ h => h
    have hr3 : Row W2.drew (.slice (some ⟨V.heap.size, 0, none⟩) 16 16) (chunk l x.1) := HZ.out.2.2.2.1
    have hpn := putRows_n (pre.map fun x => chunk l x.1) at_ d
    rw [HX.out.1, List.length_map] at hpn
    have hb4 := cnt_self l.length
    have hb5 := HD.out.2.2.2.1
    have hb6 := HD.out.2.2.2.2
    have hwr := write_at hd3 (at_ + (pre.length : Int) + 1) _ _ hr3 (by simp only at hpn; omega) (by simp only at hpn; omega)
    obtain ⟨e0, d2, hwe⟩ : ∃ e0 d2, d'.write (at_ + (pre.length : Int) + 1) (chunk l x.1) = (e0, d2) := ⟨_, _, rfl⟩
    rw [hwe] at hwr
    have HWR := Lib.hid hwr
    have HWE := Lib.hid hwe
    clear hd3 hr3 hpn hb4 hb5 hb6 hwr hwe
    have hrows : (pre ++ [x]).map (fun x => chunk l x.1) = (pre.map fun x => chunk l x.1) ++ [chunk l x.1] := by simp
    have hput : putRows at_ ((pre ++ [x]).map fun x => chunk l x.1) d = (e0, d2) := by
      rw [hrows, putRows_snoc, HX.out.1, if_pos rfl, List.length_map]
      exact HWE.out
    have FIN : ∀ w3, Step E W2.drew w3 (.pointer (some g0)) d2 → KeepsOthers V w3 ∧ KeptB (w.heap.size + 3) (w.heap.size + 4) V w3 ∧ Boxed w3 w.heap.size 27 (.pointer (some g0)) ∧
        Boxed w3 (w.heap.size + 1) 3 (.int .i64 (at_ + ((pre ++ [x]).length : Int))) ∧ Boxed w3 (w.heap.size + 2) 37 (.int .i64 0) ∧ Kept D w w3 ∧ w.heap.size + 5 ≤ w3.heap.size ∧
        ∃ D2, DiskAt w3 D2 (.pointer (some g0)) d2 ∧ ∀ k, D2 k → D k ∨ w.heap.size + 5 ≤ k := fun w3 hst => by
      obtain ⟨D2, hd2, hk3, hD2⟩ := hst
      obtain ⟨g1, g2, g3, g4, g5, g6, g7⟩ := HZ.out
      obtain ⟨-, -, -, -, -, -, -, hs, -, -, hEl, -⟩ := HX.out
      obtain ⟨-, -, -, hd1, hKw1, hk1, hEw, hDw, hs1⟩ := HY.out
      have hnE : ∀ k, k < w.heap.size + 5 → w.heap.size ≤ k → ¬ E k := fun k h1 h2 h => by rcases hEw k h with h | h; have := hDw k h; omega; omega
      have hEl2 : ∀ k, E k → Laid W2.drew k := fun k hk => ((hEl k hk).keep (hk1.block k (hEl k hk).lt fun e => hnE _ (by omega) (by omega) (e ▸ hk))).keep (g1.block k (by have := (hEl k hk).lt; omega) fun h => h)
      have hbx : ∀ {k : Nat} {t : TypeId} {v : Value}, Boxed W2 k t v → ¬ E k → Boxed w3 k t v := fun hb hn => (hk3.block _ hb.lt hn).trans hb
      have hsz2 : W2.drew.heap.size = W2.heap.size := rfl
      refine ⟨?_, ⟨?_, ?_⟩, hbx g5 (hnE _ (by omega) (by omega)), ?_, hbx g7 (hnE _ (by omega) (by omega)), ?_, ?_, D2, hd2, fun k hk => ?_⟩
      · refine (((KeepsOthers.trans ?_ g3).trans (KeepsOthers.drew W2))).trans (hk3.others hEl2)
        rw [HW.out.1]; exact KeepsOthers.setCell _ _ _
      · exact (hk3.block _ (by omega) (hnE _ (by omega) (by omega))).trans ((g1.block _ (by omega) fun h => h).trans (hk1.block _ (by omega) (by simp)))
      · exact (hk3.block _ (by omega) (hnE _ (by omega) (by omega))).trans ((g1.block _ (by omega) fun h => h).trans (hk1.block _ (by omega) (by simp)))
      · have := hbx g6 (hnE _ (by omega) (by omega))
        rwa [show at_ + ((pre ++ [x]).length : Int) = at_ + (pre.length : Int) + 1 by simp; omega]
      · refine (hKw1.trans (Kept.drew g1) fun i hi => hi.elim).trans hk3 fun i hi => ?_
        exact (hEw i hi).imp id fun h => by omega
      · have := hk3.size; omega
      · rcases hD2 k hk with h | h
        · exact hEw k h
        · right; omega
    have HF := Lib.hid (And.intro hput FIN)
    clear hput FIN hrows
    have hmx : Tryz.prog.follows .mixedOrders = true := by kernel_rfl
    by_cases he0 : e0 = 0
    · subst he0
      gi_region_with_o (refine ⟨trivial, ?_⟩; gi_at_call 66; refine (CallsIn.inRound lp (callsIn_wide.2 HWR.out)).mono ?_; rintro e w3 ⟨rfl, hst⟩; have HST := Lib.hid (HF.out.2 w3 hst); clear hst)
      all_goals
        gi_wp2
        obtain ⟨f1, f2, f3, f4, f5, f6, f7, D2, f8, f9⟩ := HST.out
        exact ⟨f1.from _, f2, _, D2, HF.out.1, f8, f9, f3, f4, f5, f6, f7⟩
    · have hne : (e0 != 0) = true := by simpa using he0
      have hee : (e0 == 0) = false := by simpa using he0
      have HE := Lib.hid he0
      clear he0
      gi_region_with_o (refine ⟨trivial, ?_⟩; gi_at_call 66; refine (CallsIn.inRound lp (callsIn_wide.2 HWR.out)).mono ?_; rintro e w3 ⟨rfl, hst⟩; have HST := Lib.hid (HF.out.2 w3 hst); clear hst)
      all_goals
        have c9 := HST.out.2.2.2.2.1.cell
        have f9 := HST.out.2.2.2.2.1.frozen
        gi_wp2
        obtain ⟨f1, f2, f3, f4, f5, f6, f7, D2, f8, f9⟩ := HST.out
        have hDw := HY.out.2.2.2.2.2.2.2.1
        exact ⟨(f1.trans (KeepsOthers.setCell _ _ _)).from _, rfl, _, _, D2, HF.out.1, HE.out, f8.far ((Kept.refl (fun k => k = w.heap.size + 2) w3).setCell (p := ⟨w.heap.size + 2, 0, none⟩) (.inl rfl) _) (fun k hk e => by subst e; rcases f9 _ hk with h | h; have := hDw _ h; omega; omega), f9, f5.set _, f6.setCell (.inr (by simp)) _⟩
  case done =>
    rintro Dm ys V hD rfl ⟨d', D', h1, h2, h3, b1, b2, b3, hk, hs⟩ hK
    rw [fin_rows] at h1
    have hDw : ∀ k, D k → k < w.heap.size := fun k hk => HD.out.1.lt hk
    have c9 := b3.cell
    have f9 := b3.frozen
    have hKO := (KeepsOthers.setCell V ⟨w.heap.size + 2, 0, none⟩ (.int .i64 0)).same Dm _ hK rfl
    have hc := cell_kept (b3.set (.int .i64 0)).cell (grownBy_putObj' _ Dm (.deferred none)) (fun r e => by cases e; exact ⟨_, hKO, rfl⟩)
    have hst : Step D w ((V.setCell ⟨w.heap.size + 2, 0, none⟩ (.int .i64 0)).putObj Dm (.deferred none)) (.pointer (some g0)) d' := by
      refine ⟨D', (h2.far ((Kept.refl (fun k => k = w.heap.size + 2) V).setCell (p := ⟨w.heap.size + 2, 0, none⟩) (.inl rfl) _) fun k hk e => ?_).grown (grownBy_putObj' _ Dm (.deferred none)) (fun r e => by cases e; exact ⟨_, hKO, rfl⟩),
        (hk.setCell (p := ⟨w.heap.size + 2, 0, none⟩) (.inr (by simp)) _).grown (grownBy_putObj' _ Dm (.deferred none)) (fun k e => by cases e; right; omega), fun k hk => (h3 k hk).imp id fun h => by omega⟩
      subst e
      rcases h3 _ hk with h | h
      · have := hDw _ h; omega
      · omega
    have HE := Lib.hid (And.intro h1 (And.intro hKO (And.intro hc hst)))
    clear h1 h2 h3 b1 b2 b3 hk hs hK hDw hKO hc hst
    gi_wp2
    refine ⟨by simp, .inl ⟨_, _, rfl, run_takeDeferred HE.out.2.1, ?_⟩⟩
    rw [HE.out.1]
    refine ⟨.int .i64 0, ?_, rfl, HE.out.2.2.2⟩
    simp [results, Tryz.f44, go_sem, HE.out.2.2.1]
  case stop =>
    rintro Dm cc pre V hD hpre ⟨rfl, e, d', D', h1, h0, h2, h3, b3, hk⟩ hK
    have hall : putRows at_ (rowsOf l) d = (e, d') := by
      obtain ⟨rest, hrest⟩ := hpre
      rw [← fin_rows, ← hrest, List.map_append, putRows_stop _ _ _ _ (by rw [h1]; exact h0), h1]
    have hc := cell_kept b3.cell (grownBy_putObj' _ Dm (.deferred none)) (fun r e => by cases e; exact ⟨_, hK, rfl⟩)
    have hst : Step D w (V.putObj Dm (.deferred none)) (.pointer (some g0)) d' :=
      ⟨D', h2.grown (grownBy_putObj' _ Dm (.deferred none)) (fun r e => by cases e; exact ⟨_, hK, rfl⟩), hk.grown (grownBy_putObj' _ Dm (.deferred none)) (fun k e => by cases e; right; omega), fun k hk => (h3 k hk).imp id fun h => by omega⟩
    have HE := Lib.hid (And.intro hall (And.intro hK (And.intro hc hst)))
    clear h1 h0 h2 h3 b3 hk hK hall hc hst
    gi_wp2
    refine ⟨by simp, .inl ⟨_, _, rfl, run_takeDeferred HE.out.2.1, ?_⟩⟩
    rw [HE.out.1]
    refine ⟨.int .i64 e, ?_, rfl, HE.out.2.2.2⟩
    simp [results, Tryz.f44, go_sem, HE.out.2.2.1]
end Go.Proofs.YtilplpjdbkipoaaGreatDoor
