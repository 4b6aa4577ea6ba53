/-
  Proved: Arm: the disk is to crash, and what it then leaves is a copy of what was handed in. Conditions: the disk lies in memory; what is handed in can be read.
-/
import Derived.Test.YtilplpjdbkipoaaDoorDiskNew
namespace Go.Proofs.YtilplpjdbkipoaaDoor
open Go Go.RowKit DiskMath NetMem

theorem info31 : (Tryd.prog.info? 70).map (fun i => (i.zero, i.size, i.bytes)) = some (some (.agg #[.int .i64 0]), 1, 8) := by kernel_rfl

/-- A row of choices that can be read. -/
def KeepsAt (w : World) (v : Value) (l : List Int) : Prop :=
  (v = .slice none 0 0 ∧ l = []) ∨ ∃ (a : Addr) (c : Nat), v = .slice (some a) l.length c ∧ ∀ k (h : k < l.length), w.cell? (a.add k) = some (.int .i64 l[k])

theorem KeepsAt.plain {w : World} (b o c : Nat) {l : List Int} (h : ∀ k (h : k < l.length), w.cell? ⟨b, o + k, none⟩ = some (.int .i64 l[k])) : KeepsAt w (.slice (some ⟨b, o, none⟩) l.length c) l :=
  .inr ⟨_, c, rfl, fun k hk => by rw [Lib.add_plain]; exact h k hk⟩
theorem KeepsAt.below {w w' : World} {v : Value} {l : List Int} (h : KeepsAt w v l) (hb : Below w.heap.size w w') : KeepsAt w' v l := by
  rcases h with h | ⟨a, c, rfl, hc⟩
  · exact .inl h
  · exact .inr ⟨a, c, rfl, fun k hk' => by rw [hb.cell (p := a.add k) (World.block_lt_of_cell? w _ (hc k hk'))]; exact hc k hk'⟩

theorem clone_none (w : World) :
    Calls Tryd.prog 34 #[.slice none 0 0] w fun e w' => e = .returned (.slice none 0 0) ∧ w = w' := by
  have q := fun (w : World) (a : Option Addr) (n c n' c' : Nat) => Lib.run_eql_slice_nil (P := Tryd.prog) w _ _ a n c n' c' Tryd.underlying34
  go_enter Tryd.func34, Tryd.ntmps34
  go_wp2_with fail
  go_ret
  exact ⟨rfl, rfl⟩

set_option maxHeartbeats 1000000 in
theorem clone_some (ad : Addr) (c : Nat) (l : List Int) (w : World) (hc : ∀ k (h : k < l.length), w.cell? (ad.add k) = some (.int .i64 l[k])) (hm : l.length ≤ 4294967296) :
    Calls Tryd.prog 34 #[.slice (some ad) l.length c] w fun e w' => ∃ v, e = .returned v ∧ w'.ownsRow w.heap.size 70 1 v l.length (l.map (Value.int .i64)) ∧ Below w.heap.size w w' := by
  obtain ⟨i0, hi, hz0, hz1, hz2⟩ := info_parts info31
  have q := fun (w : World) (a : Option Addr) (n c n' c' : Nat) => Lib.run_eql_slice_nil (P := Tryd.prog) w _ _ a n c n' c' Tryd.underlying34
  have HO := Lib.hid (World.ownsRow_made (e := 70) (size := 1) w #[] 0 (Nat.le_refl _) (by simp [maxLen]) rfl)
  have HN := Lib.hid (show ∀ j u, (l.map (Value.int .i64))[j]? = some u → (w.alloc (.cells #[] 70)).cell? (ad.add j) = some u from fun j u hu => by
    have hj : j < l.length := by have := (List.getElem?_eq_some_iff.1 hu).1; simpa using this
    have hcj := hc j hj
    rw [World.cell?_alloc_lt _ _ _ (World.block_lt_of_cell? w _ hcj), hcj, ← hu]
    simp [hj])
  have H1 := Lib.hid (show ∀ u ∈ l.map (Value.int .i64), u.oneCell' = true from fun u hu => by
    obtain ⟨x, -, rfl⟩ := List.mem_map.1 hu
    rfl)
  clear hc
  go_enter Tryd.func34, Tryd.ntmps34
  go_wp2_with (at_builtin; refine wpList_append_own _ rfl _ _ 34 rfl w.heap.size 70 i0 (.agg #[.int .i64 0]) 1 8 Tryd.underlying34 hi hz0 hz1 hz2 rfl (by decide) _ _ _ rfl HO.out ad l.length c (l.map (Value.int .i64)) rfl (by simp) HN.out H1.out ?c3 ?c4 ?c5 ?_)
  case c3 => unfold maxLen; omega
  case c4 => omega
  case c5 => simp
  intro v' w1 hown hgrow _
  have HB := Lib.hid (And.intro hown (((Below.refl w.heap.size w).alloc (Nat.le_refl _) _).grown hgrow (by simp) (fun k hk => by simp [Value.ownBlock] at hk; omega)))
  clear hown hgrow
  go_wp2_with fail
  go_ret
  exact ⟨_, rfl, by simpa using HB.out.1, HB.out.2⟩

/-- slices.Clone of choices, none or some. -/
theorem clone_keeps (v : Value) (l : List Int) (w : World) (h : KeepsAt w v l) (hm : l.length ≤ 4294967296) :
    Calls Tryd.prog 34 #[v] w fun e w' => ∃ v', e = .returned v' ∧ w'.ownsRow w.heap.size 70 1 v' l.length (l.map (Value.int .i64)) ∧ Below w.heap.size w w' := by
  rcases h with ⟨rfl, rfl⟩ | ⟨ad, c, rfl, hc⟩
  · exact (clone_none w).mono fun e w' ⟨he, hw⟩ => by subst hw; exact ⟨_, he, World.ownsRow_nil _ _ _ _, Below.refl _ _⟩
  · exact clone_some ad c l w hc hm

/-- The head of a disk that is armed. -/
theorem DiskM.arming {w w1 : World} {g s : Nat} {pv lv lv' : Value} {d : Dk} {l : List Int} (h : DiskM w g s pv lv d) (hb : Below w.heap.size w w1) (at_ : Int) (ho : w1.ownsRow w.heap.size 70 1 lv' l.length (l.map (Value.int .i64))) :
    DiskM (((w1.setCell ⟨g, 3, none⟩ (.bool true)).setCell ⟨g, 4, none⟩ (.int .i64 at_)).setCell ⟨g, 5, none⟩ lv') g s pv lv' (d.arm at_ l) := by
  have h1 := h.far (D := fun _ => False) (Kept.of_below hb) fun _ _ h => h
  have h2 := h1.turn 3 (.bool true) { d with armed := true } rfl rfl rfl rfl
  have h3 := h2.turn 4 (.int .i64 at_) { d with armed := true, at_ := at_ } rfl rfl rfl rfl
  have hge : ∀ k, lv'.ownBlock = some k → w.heap.size ≤ k := fun k hk => (ho.lt k hk).1
  have hsz : ∀ (w : World) v, w.heap.size ≤ (w.setCell ⟨g, 5, none⟩ v).heap.size := fun w v => by simp [World.setCell]
  have hbb : ∀ (w : World) v k, k ≠ g → (w.setCell ⟨g, 5, none⟩ v).heap[k]? = w.heap[k]? := fun w v k hk => heap_setCell_ne w ⟨g, 5, none⟩ v k hk
  have hg := h.glt
  have hs := h.secs.2.2.2.2.lt
  have ho' : ((w1.setCell ⟨g, 3, none⟩ (.bool true)).setCell ⟨g, 4, none⟩ (.int .i64 at_)).ownsRow 0 70 1 lv' l.length (l.map (Value.int .i64)) := by
    refine ownsRow_block (w := w1) ⟨ho.1, ho.2.imp id fun ⟨g', cap, cur, h1, _, h3⟩ => ⟨g', cap, cur, h1, Nat.zero_le _, h3⟩⟩ fun k hk => ?_
    have := hge k hk
    rw [heap_setCell_ne _ _ _ _ (show k ≠ g by omega), heap_setCell_ne _ _ _ _ (show k ≠ g by omega)]
  exact { head := by rw [heap_set h3.head]; rfl
          secs := h3.secs.keep (hbb _ _ s (Ne.symm h.gs)) (hsz _ _)
          pend := ownsRow_block h3.pend fun k hk => hbb _ _ k (fun e => h.pg (by rw [← e]; exact hk))
          pok := h.pok
          left := ownsRow_block ho' fun k hk => hbb _ _ k (by have := hge k hk; omega)
          gs := h.gs, pg := h.pg, ps := h.ps
          lg := fun e => by have := hge g e; omega
          ls := fun e => by have := hge s e; omega
          lp := fun k hk e => by have := hge k hk; have := (h.pend.lt k e).2; omega }

theorem KeepsAt.form {w : World} {v : Value} {l : List Int} (h : KeepsAt w v l) : ∃ a c, v = .slice a l.length c := by
  rcases h with ⟨rfl, rfl⟩ | ⟨ad, c, rfl, -⟩
  · exact ⟨_, _, rfl⟩
  · exact ⟨_, _, rfl⟩
theorem owns_form {w : World} {B : Nat} {e : TypeId} {size : Nat} {v : Value} {n : Nat} {xs : List Value} (h : w.ownsRow B e size v n xs) : ∃ a c, v = .slice a n c := by
  rcases h.2 with ⟨rfl, rfl⟩ | ⟨g, cap, cur, rfl, -⟩
  · exact ⟨_, _, rfl⟩
  · exact ⟨_, _, rfl⟩

set_option maxHeartbeats 2000000 in
theorem arm_m (g s : Nat) (pv lv v : Value) (d : Dk) (at_ : Int) (l : List Int) (w : World) (h : DiskM w g s pv lv d) (hk : KeepsAt w v l) (hm : l.length ≤ 4294967296) :
    Calls Tryd.prog 16 #[.pointer (some ⟨g, 0, none⟩), .agg #[.int .i64 at_, v]] w fun e w' => e = .returned (.tuple #[]) ∧ ∃ lv', DiskM w' g s pv lv' (d.arm at_ l) ∧ Kept (fun k => k = g) w w' ∧ ∀ k, lv'.ownBlock = some k → w.heap.size ≤ k := by
  obtain ⟨a0, n0, rfl⟩ := hk.form
  obtain ⟨v, hv⟩ : ∃ v, v = Value.slice a0 l.length n0 := ⟨_, rfl⟩
  obtain ⟨W, hW⟩ : ∃ W, W = (w.alloc (.cells #[.int .i64 at_, v] 36)).drew := ⟨_, rfl⟩
  have hWb : Below w.heap.size w W := by rw [hW]; exact ((Below.refl _ w).alloc (Nat.le_refl _) _).drew
  have hWs : W.heap.size = w.heap.size + 1 := by rw [hW]; show (w.alloc _).heap.size = _; simp
  have hD := h.far (D := fun _ => False) (Kept.of_below hWb) fun _ _ h => h
  have hgl := h.glt
  have hWc : W.cell? ⟨w.heap.size, 0, none⟩ = some (.int .i64 at_) ∧ W.cell? ⟨w.heap.size, 1, none⟩ = some v := by
    rw [hW]
    exact ⟨new_cell w #[.int .i64 at_, v] 36 0, new_cell w #[.int .i64 at_, v] 36 1⟩
  have HC := Lib.hid (show Calls Tryd.prog 34 #[v] W fun e w' => ∃ v' a' c', e = .returned v' ∧ v' = .slice a' l.length c' ∧ (w'.cell? ⟨w.heap.size, 0, none⟩ = some (.int .i64 at_) ∧ w'.cell? ⟨w.heap.size, 1, none⟩ = some v) ∧
      (∃ x, w'.cell? ⟨g, 3, none⟩ = some x) ∧ (∃ x, w'.cell? ⟨g, 4, none⟩ = some x) ∧ (∃ x, w'.cell? ⟨g, 5, none⟩ = some x) ∧ (∀ j, w'.frozen? ⟨g, j, none⟩ = false) ∧ Hid (w'.ownsRow W.heap.size 70 1 v' l.length (l.map (Value.int .i64)) ∧ Below W.heap.size W w') from
    (clone_keeps v l W (by rw [hv]; exact hk.below hWb) hm).mono fun e w' ⟨v', he, ho, hb⟩ => by
      obtain ⟨a', c', hv'⟩ := owns_form ho
      have h1 := hD.far (D := fun _ => False) (Kept.of_below hb) fun _ _ h => h
      obtain ⟨-, -, -, c3, c4, c5, -, cf⟩ := h1.cells
      exact ⟨v', a', c', he, hv', ⟨(hb.cell (p := ⟨w.heap.size, 0, none⟩) (by show w.heap.size < W.heap.size; omega)).trans hWc.1, (hb.cell (p := ⟨w.heap.size, 1, none⟩) (by show w.heap.size < W.heap.size; omega)).trans hWc.2⟩, ⟨_, c3⟩, ⟨_, c4⟩, ⟨_, c5⟩, cf, Lib.hid ⟨ho, hb⟩⟩)
  have hne : w.heap.size ≠ g := by omega
  have hne' : g ≠ w.heap.size := by omega
  have HD := Lib.hid hD
  have HW := Lib.hid (And.intro hWb (And.intro hWs hWc))
  have HH := Lib.hid hW
  rw [hv] at HC HH HW
  clear h hk hWb hWs hD hgl hWc hW hv
  go_enter Tryd.func16, Tryd.ntmps16
  go_wp2_with fail
  have hS0 : ((w.alloc (.cells #[.int .i64 at_, .slice a0 l.length n0] 36)).drew).cell? ⟨w.heap.size, 0, none⟩ = some (.int .i64 at_) ∧ ((w.alloc (.cells #[.int .i64 at_, .slice a0 l.length n0] 36)).drew).cell? ⟨w.heap.size, 1, none⟩ = some (.slice a0 l.length n0) := by
    rw [← HH.out]; exact HW.out.2.2
  go_region_held3 (fun W => W.cell? ⟨w.heap.size, 0, none⟩ = some (.int .i64 at_) ∧ W.cell? ⟨w.heap.size, 1, none⟩ = some (.slice a0 l.length n0)) (first | exact hS0 | assumption | (simp only [World.cell?_setCell_far _ _ _ _ hne']; assumption) | go_keep)
    (first | (go_at_call 34; rw [← HH.out]; refine HC.out.mono ?_; rintro e w1 ⟨v', a', c', rfl, rfl, hs1, ⟨x3, c3⟩, ⟨x4, c4⟩, ⟨x5, c5⟩, cf, HO⟩; have f3 := cf 3; have f4 := cf 4; have f5 := cf 5; clear cf))
  have HF := Lib.hid (HD.out.arming HO.out.2 at_ HO.out.1)
  have HK := Lib.hid (show Kept (fun k => k = g) w w1 from (Kept.of_below HW.out.1).trans (D' := fun _ => False) (Kept.of_below HO.out.2) fun _ h => h.elim)
  have HV := Lib.hid (show ∀ k, (Value.slice a' l.length c').ownBlock = some k → w.heap.size ≤ k from fun k hk => by have := (HO.out.1.lt k hk).1; have := HW.out.2.1; omega)
  clear hs1 c3 c4 c5 f3 f4 f5 hS0
  go_wp2_with fail
  go_end0
  exact ⟨rfl, _, HF.out, ((HK.out.setCell (.inl rfl) _).setCell (.inl rfl) _).setCell (.inl rfl) _, HV.out⟩
theorem arm_nil (v : Value) (w : World) (at_ : Int) (a : Option Addr) (n c : Nat) (hv : v = .agg #[.int .i64 at_, .slice a n c]) :
    Calls Tryd.prog 16 #[.pointer none, v] w fun e w' => e = .returned (.tuple #[]) ∧ Below w.heap.size w w' := by
  subst hv
  go_enter Tryd.func16, Tryd.ntmps16
  go_wp2_with fail
  refine bodyPost_ret (results_none rfl _ _ _) rfl ?_
  exact ⟨rfl, (Below.refl _ w).alloc (Nat.le_refl _) _⟩
end Go.Proofs.YtilplpjdbkipoaaDoor
