/-
  Proved: the statements' own disk: Restart, Arm; crash where it is not to crash. Conditions: the disk lies in memory; what is handed in could be read at the beginning.
-/
import Derived.Test.YtffjdpkgcgdfdaaRefMem
import Derived.BigQuiet
namespace Go.Proofs.Ytffjdpkgcgdfdaa
open Go Go.RowKit DiskMath NetMem SpanMath

section
variable {w0 w w' : World} {g : Nat} {sv pv : Value} {sb : List Nat} {ps : Pend} {d : Dk}

theorem restart_fl' (d : Dk) (i : Nat) (h : i < d.s.length) : fl d.restart i = fl d i := dropped_fl d i h

set_option maxHeartbeats 1000000 in
theorem rrestart_m (h : RefM w0 w g sv pv sb ps d) :
    Calls Try.prog 16 #[.pointer (some ⟨g, 0, none⟩)] w fun e w' => e = .returned (.tuple #[]) ∧ RefM w0 w' g sv (.slice none 0 0) sb [] d.restart ∧ Kept (fun k => k = g) w w' := by
  obtain ⟨at_, lv, ar, hok, h1, c0, c1, c2, c3, c4, c5, c6, cf⟩ := h.cells
  have HH := Lib.hid (And.intro h h1)
  obtain ⟨left, -, hkl⟩ := hok
  have HL := Lib.hid hkl
  have f1 := cf 1
  have f4 := cf 4
  have f5 := cf 5
  have f6 := cf 6
  clear h h1 hkl cf c0 c2 c3
  go_enter Try.func16, Try.ntmps16
  go_wp2_with fail
  go_end0
  refine ⟨rfl, ?_, ((((Kept.refl (fun k => k = g) w).setCell (.inl rfl) _).setCell (.inl rfl) _).setCell (.inl rfl) _).setCell (.inl rfl) _⟩
  refine HH.out.1.redrop (fun k hk => ?_) (by simp [World.setCell]) (fun i hi => restart_fl' d i hi) (dropped_len d) rfl ⟨at_, lv, false, ?_, left, fun _ => ⟨rfl, fun h => by cases h⟩, HL.out⟩
  · rw [heap_setCell_ne _ _ _ _ hk, heap_setCell_ne _ _ _ _ hk, heap_setCell_ne _ _ _ _ hk, heap_setCell_ne _ _ _ _ hk]
  · rw [heap_set (heap_set (heap_set (heap_set HH.out.2 _ _) _ _) _ _) _ _]
    rfl

set_option maxHeartbeats 2000000 in
theorem rcrash_not (h : RefM w0 w g sv pv sb ps d) (hd : d.down = false) (hh : d.hits = false) :
    Calls Try.prog 55 #[.pointer (some ⟨g, 0, none⟩)] w fun e w' => e = .returned (.bool false) ∧ Kept (fun _ => False) w w' := by
  obtain ⟨at_, lv, ar, ⟨left, hok, -⟩, h1, c0, c1, c2, c3, c4, c5, c6, cf⟩ := h.cells
  obtain ⟨ha, hb⟩ := hok hd
  clear h hok h1 cf c0 c1 c3 c6
  unfold Dk.hits at hh
  obtain ⟨n, hn⟩ : ∃ z : Int, z = (d.n : Int) := ⟨_, rfl⟩
  rw [← hn] at hh c4
  cases har : d.armed
  · rw [har] at ha
    subst ha
    clear hh hb hd har hn
    go_enter Try.func55, Try.ntmps55
    go_wp2_with fail
    go_quiet (fail)
    go_wp2_with fail
    go_ret
    exact ⟨rfl, rfl, rfl, rfl, Nat.le_refl _, fun _ _ _ => rfl⟩
  · obtain ⟨rfl, -⟩ := hb har
    rw [har] at ha hh
    subst ha
    obtain ⟨at_, hat⟩ : ∃ z : Int, z = d.at_ := ⟨_, rfl⟩
    rw [← hat] at hh c2
    have hlt : n < at_ := by simpa using hh
    clear hh hb hd har hat hn
    go_enter Try.func55, Try.ntmps55
    go_wp2_with fail
    go_quiet (fail)
    go_wp2_with fail
    go_ret
    exact ⟨rfl, rfl, rfl, rfl, Nat.le_refl _, fun _ _ _ => rfl⟩

set_option maxHeartbeats 2000000 in
theorem rarm_m (h : RefM w0 w g sv pv sb ps d) (at_ : Int) (v : Value) (l : List Int) (hk : KeepsAt w0 v l) :
    Calls Try.prog 10 #[.pointer (some ⟨g, 0, none⟩), .agg #[.int .i64 at_, v]] w fun e w' => e = .returned (.tuple #[]) ∧ RefM w0 w' g sv pv sb ps (d.arm at_ l) ∧ Kept (fun k => k = g) w w' := by
  obtain ⟨at0, lv, ar, -, h1, c0, c1, c2, c3, c4, c5, c6, cf⟩ := h.cells
  have hgl := h.glt
  obtain ⟨a0, n0, hv⟩ := hk.form
  have HH := Lib.hid (And.intro h (And.intro h1 hk))
  have f2 := cf 2
  have f3 := cf 3
  have f5 := cf 5
  subst hv
  have hhe : ∀ o k, k < w.heap.size → (w.alloc o).heap[k]? = w.heap[k]? := fun o k hk => Below.heap_alloc _ _ _ hk
  have d2 : ∀ o, (w.alloc o).cell? ⟨g, 2, none⟩ = some (.int .i64 at0) := fun o => (World.cell?_alloc_lt _ _ _ hgl).trans c2
  have d3 : ∀ o, (w.alloc o).cell? ⟨g, 3, none⟩ = some lv := fun o => (World.cell?_alloc_lt _ _ _ hgl).trans c3
  have d5 : ∀ o, (w.alloc o).cell? ⟨g, 5, none⟩ = some (.bool ar) := fun o => (World.cell?_alloc_lt _ _ _ hgl).trans c5
  have e2 : ∀ o, (w.alloc o).frozen? ⟨g, 2, none⟩ = false := fun o => (World.frozen?_of_block (a := ⟨g, 2, none⟩) (hhe o g hgl)).trans f2
  have e3 : ∀ o, (w.alloc o).frozen? ⟨g, 3, none⟩ = false := fun o => (World.frozen?_of_block (a := ⟨g, 3, none⟩) (hhe o g hgl)).trans f3
  have e5 : ∀ o, (w.alloc o).frozen? ⟨g, 5, none⟩ = false := fun o => (World.frozen?_of_block (a := ⟨g, 5, none⟩) (hhe o g hgl)).trans f5
  have HHE := Lib.hid (And.intro hhe hgl)
  clear h h1 hk cf c0 c1 c2 c3 c4 c5 c6 f2 f3 f5 hgl hhe
  go_enter Try.func10, Try.ntmps10
  go_wp2_with fail
  go_end0
  have hb : ∀ k, k ≠ g → k < w.heap.size → ((((w.alloc (.cells #[.int .i64 at_, .slice a0 l.length n0] 30)).setCell ⟨g, 2, none⟩ (.int .i64 at_)).setCell ⟨g, 3, none⟩ (.slice a0 l.length n0)).setCell ⟨g, 5, none⟩ (.bool true)).heap[k]? = w.heap[k]? := fun k hk hl => by
    rw [heap_setCell_ne _ _ _ _ hk, heap_setCell_ne _ _ _ _ hk, heap_setCell_ne _ _ _ _ hk]
    exact HHE.out.1 _ k hl
  refine ⟨rfl, ?_, ((((Kept.refl (fun k => k = g) w).alloc _).setCell (.inl rfl) _).setCell (.inl rfl) _).setCell (.inl rfl) _⟩
  have h2 := HH.out.1.below ((Below.refl _ w).alloc (Nat.le_refl _) (.cells #[.int .i64 at_, .slice a0 l.length n0] 30))
  refine h2.rehead (fun k hk => ?_) (by simp [World.setCell]) (fun i hi => rfl) rfl rfl ⟨at_, .slice a0 l.length n0, true, ?_, l, fun _ => ⟨rfl, fun _ => ⟨rfl, rfl⟩⟩, HH.out.2.2⟩
  · rw [heap_setCell_ne _ _ _ _ hk, heap_setCell_ne _ _ _ _ hk, heap_setCell_ne _ _ _ _ hk]
  · rw [heap_set (heap_set (heap_set ((HHE.out.1 _ g HHE.out.2).trans HH.out.2.1) _ _) _ _) _ _]
    rfl
end
end Go.Proofs.Ytffjdpkgcgdfdaa
