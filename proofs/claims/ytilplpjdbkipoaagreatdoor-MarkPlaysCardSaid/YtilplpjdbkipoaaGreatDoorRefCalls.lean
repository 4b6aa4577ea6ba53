/-
  Proved: texts joined: Proved: the statements' own disk: Restart, Arm; crash where it is not to crash. Conditions: the disk lies in memory; what is handed in could be read at the beginning.
  Proved: the statements' own disk: crash, where it is to crash: of each pending write so many bytes are left as the crash says. Conditions: the disk lies in memory; what was handed in could be read at the beginning.
  Proved: the statements' own disk: Flush: what is pending is on the disk, in order; or the disk crashes; or it is down already. Conditions: the disk lies in memory; what was handed in could be read at the beginning.
  Proved: the statements' own disk: Write: a sector's bytes are pending; or the disk crashes; or the write is refused. Conditions: the disk lies in memory, the bytes can be read; what was handed in could be read at the beginning; so many writes and operations were not yet that their number would wrap.
  Proved: the statements' own disk: Read: a sector's bytes are new memory. Conditions: the disk lies in memory.
-/
import Derived.Test.YtilplpjdbkipoaaGreatDoorRefMem
import Derived.BigQuiet
import Derived.Deep.RegionLaw
namespace Go.Proofs.YtilplpjdbkipoaaGreatDoor
open Go Go.RowKit DiskMath NetMem SpanMath

section
variable {w0 w w' : World} {g : Nat} {sv pv : Value} {sb : List Nat} {ps : Pend} {d : Dk}

theorem restart_fl' (d : Dk) (i : Nat) (h : i < d.s.length) : fl d.restart i = fl d i := dropped_fl d i h

set_option maxHeartbeats 1000000 in
theorem rrestart_m (h : RefM w0 w g sv pv sb ps d) :
    Calls Tryz.prog 12 #[.pointer (some ⟨g, 0, none⟩)] w fun e w' => e = .returned (.tuple #[]) ∧ RefM w0 w' g sv (.slice none 0 0) sb [] d.restart ∧ Kept (fun k => k = g) w w' := by
  obtain ⟨at_, lv, ar, hok, h1, c0, c1, c2, c3, c4, c5, c6, cf⟩ := h.cells
  have HH := Lib.hid (And.intro h h1)
  obtain ⟨left, -, hkl⟩ := hok
  have HL := Lib.hid hkl
  have f1 := cf 1
  have f4 := cf 4
  have f5 := cf 5
  have f6 := cf 6
  clear h h1 hkl cf c0 c2 c3
  go_enter Tryz.func12, Tryz.ntmps12
  go_wp2_with fail
  go_end0
  refine ⟨rfl, ?_, ((((Kept.refl (fun k => k = g) w).setCell (.inl rfl) _).setCell (.inl rfl) _).setCell (.inl rfl) _).setCell (.inl rfl) _⟩
  refine HH.out.1.redrop (fun k hk => ?_) (by simp [World.setCell]) (fun i hi => restart_fl' d i hi) (dropped_len d) rfl ⟨at_, lv, false, ?_, left, fun _ => ⟨rfl, fun h => by cases h⟩, HL.out⟩
  · rw [heap_setCell_ne _ _ _ _ hk, heap_setCell_ne _ _ _ _ hk, heap_setCell_ne _ _ _ _ hk, heap_setCell_ne _ _ _ _ hk]
  · rw [heap_set (heap_set (heap_set (heap_set HH.out.2 _ _) _ _) _ _) _ _]
    rfl

set_option maxHeartbeats 2000000 in
theorem rcrash_not (h : RefM w0 w g sv pv sb ps d) (hd : d.down = false) (hh : d.hits = false) :
    Calls Tryz.prog 72 #[.pointer (some ⟨g, 0, none⟩)] w fun e w' => e = .returned (.bool false) ∧ Kept (fun _ => False) w w' := by
  obtain ⟨at_, lv, ar, ⟨left, hok, -⟩, h1, c0, c1, c2, c3, c4, c5, c6, cf⟩ := h.cells
  obtain ⟨ha, hb⟩ := hok hd
  clear h hok h1 cf c0 c1 c3 c6
  unfold Dk.hits at hh
  obtain ⟨n, hn⟩ : ∃ z : Int, z = (d.n : Int) := ⟨_, rfl⟩
  rw [← hn] at hh c4
  cases har : d.armed
  · rw [har] at ha
    subst ha
    clear hh hb hd har hn
    go_enter Tryz.func72, Tryz.ntmps72
    go_wp2_with fail
    go_quiet (fail)
    go_wp2_with fail
    go_ret
    exact ⟨rfl, rfl, rfl, rfl, Nat.le_refl _, fun _ _ _ => rfl⟩
  · obtain ⟨rfl, -⟩ := hb har
    rw [har] at ha hh
    subst ha
    obtain ⟨at_, hat⟩ : ∃ z : Int, z = d.at_ := ⟨_, rfl⟩
    rw [← hat] at hh c2
    have hlt : n < at_ := by simpa using hh
    clear hh hb hd har hat hn
    go_enter Tryz.func72, Tryz.ntmps72
    go_wp2_with fail
    go_quiet (fail)
    go_wp2_with fail
    go_ret
    exact ⟨rfl, rfl, rfl, rfl, Nat.le_refl _, fun _ _ _ => rfl⟩

set_option maxHeartbeats 2000000 in
theorem rarm_m (h : RefM w0 w g sv pv sb ps d) (at_ : Int) (v : Value) (l : List Int) (hk : KeepsAt w0 v l) :
    Calls Tryz.prog 8 #[.pointer (some ⟨g, 0, none⟩), .agg #[.int .i64 at_, v]] w fun e w' => e = .returned (.tuple #[]) ∧ RefM w0 w' g sv pv sb ps (d.arm at_ l) ∧ Kept (fun k => k = g) w w' := by
  obtain ⟨at0, lv, ar, -, h1, c0, c1, c2, c3, c4, c5, c6, cf⟩ := h.cells
  have hgl := h.glt
  obtain ⟨a0, n0, hv⟩ := hk.form
  have HH := Lib.hid (And.intro h (And.intro h1 hk))
  have f2 := cf 2
  have f3 := cf 3
  have f5 := cf 5
  subst hv
  have hhe : ∀ o k, k < w.heap.size → (w.alloc o).heap[k]? = w.heap[k]? := fun o k hk => Below.heap_alloc _ _ _ hk
  have d2 : ∀ o, (w.alloc o).cell? ⟨g, 2, none⟩ = some (.int .i64 at0) := fun o => (World.cell?_alloc_lt _ _ _ hgl).trans c2
  have d3 : ∀ o, (w.alloc o).cell? ⟨g, 3, none⟩ = some lv := fun o => (World.cell?_alloc_lt _ _ _ hgl).trans c3
  have d5 : ∀ o, (w.alloc o).cell? ⟨g, 5, none⟩ = some (.bool ar) := fun o => (World.cell?_alloc_lt _ _ _ hgl).trans c5
  have e2 : ∀ o, (w.alloc o).frozen? ⟨g, 2, none⟩ = false := fun o => (World.frozen?_of_block (a := ⟨g, 2, none⟩) (hhe o g hgl)).trans f2
  have e3 : ∀ o, (w.alloc o).frozen? ⟨g, 3, none⟩ = false := fun o => (World.frozen?_of_block (a := ⟨g, 3, none⟩) (hhe o g hgl)).trans f3
  have e5 : ∀ o, (w.alloc o).frozen? ⟨g, 5, none⟩ = false := fun o => (World.frozen?_of_block (a := ⟨g, 5, none⟩) (hhe o g hgl)).trans f5
  have HHE := Lib.hid (And.intro hhe hgl)
  clear h h1 hk cf c0 c1 c2 c3 c4 c5 c6 f2 f3 f5 hgl hhe
  go_enter Tryz.func8, Tryz.ntmps8
  go_wp2_with fail
  go_end0
  have hb : ∀ k, k ≠ g → k < w.heap.size → ((((w.alloc (.cells #[.int .i64 at_, .slice a0 l.length n0] 26)).setCell ⟨g, 2, none⟩ (.int .i64 at_)).setCell ⟨g, 3, none⟩ (.slice a0 l.length n0)).setCell ⟨g, 5, none⟩ (.bool true)).heap[k]? = w.heap[k]? := fun k hk hl => by
    rw [heap_setCell_ne _ _ _ _ hk, heap_setCell_ne _ _ _ _ hk, heap_setCell_ne _ _ _ _ hk]
    exact HHE.out.1 _ k hl
  refine ⟨rfl, ?_, ((((Kept.refl (fun k => k = g) w).alloc _).setCell (.inl rfl) _).setCell (.inl rfl) _).setCell (.inl rfl) _⟩
  have h2 := HH.out.1.below ((Below.refl _ w).alloc (Nat.le_refl _) (.cells #[.int .i64 at_, .slice a0 l.length n0] 26))
  refine h2.rehead (fun k hk => ?_) (by simp [World.setCell]) (fun i hi => rfl) rfl rfl ⟨at_, .slice a0 l.length n0, true, ?_, l, fun _ => ⟨rfl, fun _ => ⟨rfl, rfl⟩⟩, HH.out.2.2⟩
  · rw [heap_setCell_ne _ _ _ _ hk, heap_setCell_ne _ _ _ _ hk, heap_setCell_ne _ _ _ _ hk]
  · rw [heap_set (heap_set (heap_set ((HHE.out.1 _ g HHE.out.2).trans HH.out.2.1) _ _) _ _) _ _]
    rfl
end
end Go.Proofs.YtilplpjdbkipoaaGreatDoor

namespace Go.Proofs.YtilplpjdbkipoaaGreatDoor
open Go Go.RowKit DiskMath NetMem SpanMath

/-- What the round's copy finds. -/
def copyS (g q s kk sbi k i : Nat) (sv pv qv : Value) (cs : List Value) (W : World) : Prop :=
  W.cell? ⟨g, 0, none⟩ = some sv ∧ W.cell? ⟨g, 1, none⟩ = some pv ∧ W.cell? ⟨q, k * 2, none⟩ = some (.int .i64 (i : Int)) ∧ W.cell? ⟨q, k * 2 + 1, none⟩ = some qv ∧ W.cell? ⟨s, i, none⟩ = some (.slice (some ⟨sbi, 0, none⟩) 16 16) ∧ W.rangeAt kk 0 cs ∧ W.there sbi 0 16
theorem copyS.store {g q s kk sbi k i : Nat} {sv pv qv : Value} {cs : List Value} {W : World} (h : copyS g q s kk sbi k i sv pv qv cs W) (hg : g ≠ sbi) (hq : q ≠ sbi) (hs : s ≠ sbi) (hk : kk ≠ sbi) (ds : List Value) : copyS g q s kk sbi k i sv pv qv cs (W.setCells sbi 0 ds) := by
  have e : ∀ b o, b ≠ sbi → (W.setCells sbi 0 ds).cell? ⟨b, o, none⟩ = W.cell? ⟨b, o, none⟩ := fun b o hb => World.cell?_setCells_out sbi ds 0 W _ (fun e => absurd e hb)
  exact ⟨(e g 0 hg).trans h.1, (e g 1 hg).trans h.2.1, (e q _ hq).trans h.2.2.1, (e q _ hq).trans h.2.2.2.1, (e s _ hs).trans h.2.2.2.2.1, World.rangeAt_setCells_apart h.2.2.2.2.2.1 _ _ _ (.inl hk), World.there_setCells h.2.2.2.2.2.2 _ _ _⟩
theorem copyS.drew {g q s kk sbi k i : Nat} {sv pv qv : Value} {cs : List Value} {W : World} (h : copyS g q s kk sbi k i sv pv qv cs W) : copyS g q s kk sbi k i sv pv qv cs W.drew := by
  unfold copyS at h ⊢
  simpa using h

section
variable {w0 w wr : World} {g : Nat} {sv pv : Value} {sb : List Nat} {ps : Pend} {d : Dk}

/-- What a round finds. -/
theorem RefM.copyS_at (h : RefM w0 w g sv pv sb ps d) {k i : Nat} {qv : Value} {b : List UInt8} (hk : k < ps.length) (hx : (qv, i, b) = ps[k]) : ∃ (q s kk : Nat) (ap asv : Option Addr) (cp cs cc : Nat) (hi : i < sb.length), pv = .slice ap ps.length cp ∧ ps.length ≤ cp ∧ cp ≤ maxLen ∧ ap = some ⟨q, 0, none⟩ ∧
    sv = .slice asv sb.length cs ∧ sb.length ≤ cs ∧ cs ≤ maxLen ∧ asv = some ⟨s, 0, none⟩ ∧ qv = .slice (some ⟨kk, 0, none⟩) 16 cc ∧ 16 ≤ cc ∧ cc ≤ maxLen ∧ b.length = 16 ∧
    copyS g q s kk sb[i] k i sv pv qv (Lib.byteCells b) w ∧ g ≠ sb[i] ∧ q ≠ sb[i] ∧ s ≠ sb[i] ∧ kk ≠ sb[i] := by
  obtain ⟨ap, cp, hpv, hp1, hp2, hp⟩ := h.pv_at
  obtain ⟨asv, cs, hsv, hs1, hs2, hs⟩ := h.sv_at
  obtain ⟨q, hq, hqg, hq0, hq1, hqb⟩ := hp k hk
  obtain ⟨-, hil, hbl⟩ := h.pown ps[k] (List.getElem_mem hk)
  rw [← hx] at hil hbl hq0 hq1
  have hi : i < sb.length := by rw [h.slen]; exact hil
  obtain ⟨s, hss, hsg, hs0, hsb⟩ := hs i hi
  obtain ⟨kk, cc, hkv, hk1, hk2, hkg, -, -, hkb, hkl, hkr⟩ := h.row_at k hk
  rw [← hx] at hkv hkr
  obtain ⟨at_, lv, ar, -, -, c0, c1, -⟩ := h.cells
  exact ⟨q, s, kk, ap, asv, cp, cs, cc, hi, hpv, hp1, hp2, hq, hsv, hs1, hs2, hss, hkv, hk1, hk2, hbl, ⟨c0, c1, hq0, hq1, hs0, hkr, (h.sec i hi).2.1⟩, fun e => (h.gs _ (List.getElem_mem hi)).1 e.symm, fun e => hqb _ (List.getElem_mem hi) e.symm, fun e => hsb _ (List.getElem_mem hi) e.symm, fun e => hkb _ (List.getElem_mem hi) e.symm⟩

theorem crash_next (d : Dk) (k i : Nat) (b : List UInt8) (hx : d.p[k]? = some (i, b)) (hi : i < d.s.length) (j : Nat) :
    fl { d with s := iter (crashR d.left d.p) (k + 1) d.s } j = if j = i then b.take (keepOf d.left k) ++ (fl { d with s := iter (crashR d.left d.p) k d.s } i).drop (keepOf d.left k) else fl { d with s := iter (crashR d.left d.p) k d.s } j := by
  obtain ⟨L, hL⟩ : ∃ L, L = iter (crashR d.left d.p) k d.s := ⟨_, rfl⟩
  have hl : L.length = d.s.length := by rw [hL]; exact iter_length (crashR_length d.left d.p) _ _
  show (((crashR d.left d.p k (iter (crashR d.left d.p) k d.s))[j]?).getD ([], [])).1 = if j = i then b.take (keepOf d.left k) ++ (((iter (crashR d.left d.p) k d.s)[i]?).getD ([], [])).1.drop (keepOf d.left k) else (((iter (crashR d.left d.p) k d.s)[j]?).getD ([], [])).1
  rw [← hL]
  unfold crashR
  rw [hx]
  simp only
  by_cases e : j = i
  · subst e
    rw [if_pos rfl, fl_modify _ _ _ _ (by omega), if_pos rfl]
  · rw [if_neg e, mod_at (Ne.symm e)]
def RelRC (w0 : World) (g : Nat) (sv pv : Value) (sb : List Nat) (ps : Pend) (d : Dk) (w : World) (i : Value) (wr : World) : Prop :=
  ∃ k : Nat, k ≤ ps.length ∧ i = .int .i64 (k : Int) ∧ RefM w0 wr g sv pv sb ps { d with s := iter (crashR d.left d.p) k d.s } ∧ Kept (fun k => k = g ∨ k ∈ sb) w wr

theorem keep_num (l : List Int) (k : Nat) (hk : k < l.length) : (keepOf l k : Int) = max 0 (min l[k] 16) := by
  unfold keepOf
  rw [List.getD_eq_getElem?_getD, List.getElem?_eq_getElem hk, Option.getD_some]
  omega
theorem keep_none (l : List Int) (k : Nat) (hk : l.length ≤ k) : keepOf l k = 0 := by
  unfold keepOf
  rw [List.getD_eq_getElem?_getD, List.getElem?_eq_none hk, Option.getD_none]
  omega

set_option maxHeartbeats 8000000 in
set_option maxRecDepth 100000 in
theorem rcrash_hit (h : RefM w0 w g sv pv sb ps d) (hd : d.down = false) (hh : d.hits = true) (hb0 : Below w0.heap.size w0 w) (hge : ∀ k, (k = g ∨ k ∈ sb) → w0.heap.size ≤ k) :
    Calls Tryz.prog 72 #[.pointer (some ⟨g, 0, none⟩)] w fun e w' => e = .returned (.bool true) ∧ RefM w0 w' g sv (.slice none 0 0) sb [] d.crashed ∧ Kept (fun k => k = g ∨ k ∈ sb) w w' := by
  obtain ⟨at_, lv, ar, ⟨left, hok, hkl⟩, h1, c0, c1, c2, c3, c4, c5, c6, cf⟩ := h.cells
  obtain ⟨ha, hb⟩ := hok hd
  unfold Dk.hits at hh
  have har : d.armed = true := by
    cases e : d.armed
    · rw [e] at hh; cases hh
    · rfl
  obtain ⟨rfl, hleft⟩ := hb har
  rw [har] at ha hh
  subst ha
  obtain ⟨n, hn⟩ : ∃ z : Int, z = (d.n : Int) := ⟨_, rfl⟩
  rw [← hn] at hh c4
  obtain ⟨at_, hat⟩ : ∃ z : Int, z = d.at_ := ⟨_, rfl⟩
  rw [← hat] at hh c2
  have hle : at_ ≤ n := by simpa using hh
  obtain ⟨ap, cp, hpv, hp1, hp2, -⟩ := h.pv_at
  unfold maxLen at hp2
  rw [hpv] at c1
  rw [hpv] at h
  have HH := Lib.hid (And.intro h (And.intro hb0 (And.intro hge (And.intro hd har))))
  clear h h1 hok hb hd hh har hn hat cf hb0 hge hkl hleft c0 c3 c6
  subst hpv
  go_enter Tryz.func72, Tryz.ntmps72
  go_wp2_with fail
  go_quiet (fail)
  go_wp2_with fail
  go_loopw [3] (fun i wr => RelRC w0 g sv (.slice ap ps.length cp) sb ps d w i wr) (fun i _ => ps.length - (intOf i).toNat)
  case atStart =>
    exact ⟨0, by omega, rfl, HH.out.1.far (D := fun _ => False) ⟨rfl, rfl, rfl, Nat.le_refl _, fun _ _ _ => rfl⟩ (fun _ _ h => h), ⟨rfl, rfl, rfl, Nat.le_refl _, fun _ _ _ => rfl⟩⟩
  case round =>
    clear c1 c2 c4 c5 hle
    obtain ⟨k, hk, rfl, hrk, hkw⟩ := hrel
    by_cases hlt : k < ps.length
    · obtain ⟨x, hx⟩ : ∃ x, x = ps[k] := ⟨_, rfl⟩
      obtain ⟨qv, i, b⟩ := x
      have hilen := (hrk.pown ps[k] (List.getElem_mem hlt)).2.1
      rw [← hx] at hilen
      obtain ⟨q, s, kk, ap', asv, cp', cs, cc, hi, hpv', -, -, hap, hsv, hs1, hs2, hass, hqv, hc1, hc2, hbl, hcp, n1, n2, n3, n4⟩ := hrk.copyS_at hlt hx
      simp only [Value.slice.injEq] at hpv'
      obtain ⟨rfl, -, rfl⟩ := hpv'
      subst hap hass hqv hsv
      obtain ⟨at1, lv1, ar1, ⟨left1, hok1, hkl1⟩, -, -, d1, -, d3, -, -, -, -⟩ := hrk.cells
      have hle1 : left1 = d.left := ((hok1 HH.out.2.2.2.1).2 HH.out.2.2.2.2).2
      subst hle1
      obtain ⟨la, lc, hlv⟩ := hkl1.form
      subst hlv
      have hb1 : Below w0.heap.size w0 wr := HH.out.2.1.trans (hkw.below HH.out.2.2.1 HH.out.2.1.size)
      have hxp : d.p[k]? = some (i, b) := by
        have h1 := hrk.pok
        simp only at h1
        rw [h1, List.getElem?_map, List.getElem?_eq_getElem hlt, ← hx]
        rfl
      have hidl : i < d.s.length := by
        have : i < (iter (crashR d.left d.p) k d.s).length := hilen
        rwa [iter_length (crashR_length d.left d.p)] at this
      obtain ⟨sbi, hsbi⟩ : ∃ sbi, sbi = sb[i] := ⟨_, rfl⟩
      rw [← hsbi] at hcp n1 n2 n3 n4
      have HX := Lib.hid (And.intro hxp (And.intro hidl (And.intro hbl (And.intro hi (And.intro hrk (And.intro hkw hsbi))))))
      have hcpd := hcp.drew
      unfold copyS at hcpd
      have HS := Lib.hid hcpd
      have HG := Lib.hid (fun (W : World) (ds : List Value) (h : copyS g q s kk sbi k i (.slice (some ⟨s, 0, none⟩) sb.length cs) (.slice (some ⟨q, 0, none⟩) ps.length cp) (.slice (some ⟨kk, 0, none⟩) 16 cc) (Lib.byteCells b) W) => h.store n1 n2 n3 n4 ds)
      have HC := Lib.hid (fun (kp : Nat) (hkp : kp ≤ 16) (W : World) (h : copyS g q s kk sbi k i (.slice (some ⟨s, 0, none⟩) sb.length cs) (.slice (some ⟨q, 0, none⟩) ps.length cp) (.slice (some ⟨kk, 0, none⟩) 16 cc) (Lib.byteCells b) W) => show (∀ j v, (Lib.byteCells (b.take kp))[j]? = some v → W.cell? ((⟨kk, 0, none⟩ : Addr).add j) = some v) ∧ W.there sbi 0 (Lib.byteCells (b.take kp)).length from ⟨fun j v hv => by
        rw [Lib.add_plain]
        refine h.2.2.2.2.2.1 j v ?_
        have hj : j < (Lib.byteCells (b.take kp)).length := (List.getElem?_eq_some_iff.1 hv).1
        rw [bl, List.length_take] at hj
        simp only [Lib.byteCells, List.getElem?_map, List.getElem?_take] at hv ⊢
        rw [if_pos (by omega)] at hv
        exact hv, fun j hj => h.2.2.2.2.2.2 j (by rw [bl, List.length_take, hbl] at hj; omega)⟩)
      have HL := Lib.hid (fun (kp : Nat) (hkp : kp ≤ 16) => show (Lib.byteCells (b.take kp)).length = Nat.min kp 16 from by rw [bl, List.length_take, hbl])
      have HO := Lib.hid (fun (kp : Nat) => show ∀ v ∈ Lib.byteCells (b.take kp), v.oneCell' = true from oneCell_bytes _)
      have HN := Lib.hid (fun (kp : Nat) (hkp : kp = keepOf d.left k) => show RefM w0 (wr.drew.setCells sbi 0 (Lib.byteCells (b.take kp))) g (.slice (some ⟨s, 0, none⟩) sb.length cs) (.slice (some ⟨q, 0, none⟩) ps.length cp) sb ps { d with s := iter (crashR d.left d.p) (k + 1) d.s } ∧ Kept (fun k => k = g ∨ k ∈ sb) w (wr.drew.setCells sbi 0 (Lib.byteCells (b.take kp))) from by
        obtain ⟨hxp, hidl, hbl, hi, hrk, hkw, hsbi⟩ := HX.out
        have hrk' := hrk.far (D := fun _ => False) ((Kept.refl _ wr).drew) (fun _ _ h => h)
        have ht := hrk'.tear i hi b hbl (keepOf d.left k) (keepOf_le _ _) (s' := iter (crashR d.left d.p) (k + 1) d.s) (by rw [iter, crashR_length]) ((crash_next d k i b hxp hidl i).trans (if_pos rfl)) (fun j hj => (crash_next d k i b hxp hidl j).trans (if_neg hj))
        rw [hsbi, hkp]
        exact ⟨ht, hkw.drew.setCells (.inl (.inr (by exact List.getElem_mem hi))) _ _⟩)
      have i0 : (0 : Int) ≤ (i : Int) := by omega
      have i1 : (i : Int) < (sb.length : Int) := by omega
      have k1 : (k : Int) < (ps.length : Int) := by omega
      have cc1 : (16 : Int) ≤ (cc : Int) := by omega
      have cc2 : (cc : Int) ≤ 9223372036854775807 := by unfold maxLen at hc2; omega
      have cs2 : (cs : Int) ≤ 9223372036854775807 := by unfold maxLen at hs2; omega
      by_cases hkl : k < d.left.length
      · obtain ⟨lb, lo, lc', hlv', hcell, hlbl⟩ := hkl1.some_at k hkl
        simp only [Value.slice.injEq] at hlv'
        obtain ⟨rfl, -, rfl⟩ := hlv'
        have hcl : wr.cell? ⟨lb, lo + k, none⟩ = some (.int .i64 d.left[k]) := (hb1.cell (p := ⟨lb, lo + k, none⟩) hlbl).trans hcell
        have hkn := keep_num d.left k hkl
        obtain ⟨z, hz⟩ : ∃ z, z = d.left[k] := ⟨_, rfl⟩
        rw [← hz] at hcl hkn
        have kl1 : (k : Int) < (d.left.length : Int) := by omega
        obtain ⟨LL, hLL⟩ : ∃ LL, LL = d.left.length := ⟨_, rfl⟩
        rw [← hLL] at d3 kl1
        have main : z < 0 ∧ 0 = keepOf d.left k ∨ z = 0 ∧ 0 = keepOf d.left k ∨ 16 < z ∧ 16 = keepOf d.left k ∨ ∃ kp : Nat, z = (kp : Int) ∧ 0 < kp ∧ kp ≤ 16 ∧ kp = keepOf d.left k := by
          rcases (show z < 0 ∨ z = 0 ∨ (0 < z ∧ z ≤ 16) ∨ 16 < z by omega) with h1 | h1 | ⟨h1, h2⟩ | h1
          · exact .inl ⟨h1, by omega⟩
          · exact .inr (.inl ⟨h1, by omega⟩)
          · exact .inr (.inr (.inr ⟨z.toNat, by omega, by omega, by omega, by omega⟩))
          · exact .inr (.inr (.inl ⟨h1, by omega⟩))
        clear hx hilen hrk hcp n1 n2 n3 n4 hcpd hok1 hkl1 hb1 hxp hidl hsbi hkl hcell hlbl hkn hz hLL hc1 hc2 hs1 hs2 hbl hkw
        rcases main with ⟨z1, hkp⟩ | ⟨rfl, hkp⟩ | ⟨z1, hkp⟩ | ⟨kp, rfl, z1, z2, hkp⟩
        · have HKP := Lib.hid hkp
          clear hkp
          go_wp2_with fail
          have HC1 := Lib.hid (HC.out 0 (by omega))
          go_region_held3 (fun W => W.cell? ⟨g, 0, none⟩ = some (.slice (some ⟨s, 0, none⟩) sb.length cs) ∧ W.cell? ⟨g, 1, none⟩ = some (.slice (some ⟨q, 0, none⟩) ps.length cp) ∧ W.cell? ⟨q, k * 2, none⟩ = some (.int .i64 (i : Int)) ∧ W.cell? ⟨q, k * 2 + 1, none⟩ = some (.slice (some ⟨kk, 0, none⟩) 16 cc) ∧ W.cell? ⟨s, i, none⟩ = some (.slice (some ⟨sbi, 0, none⟩) 16 16) ∧ W.rangeAt kk 0 (Lib.byteCells b) ∧ W.there sbi 0 16) (first | assumption | exact HS.out | exact HG.out _ _ (by assumption))
            ((refine step_copy_cells (by rfl) (.tmp 63) (.tmp 73) 56 56 (by rfl) 5 Tryz.underlying56 sizeByte sbi 0 16 16 ⟨kk, 0, none⟩ 0 cc (by rfl) (by rfl) (Lib.byteCells (b.take 0)) (HL.out 0 (by omega)) (HC1.out _ (by assumption)).1 (HC1.out _ (by assumption)).2 (HO.out 0) ?_))
          have HF := Lib.hid (HN.out 0 HKP.out)
          go_wp2_with fail
          exact ⟨⟨k + 1, by omega, by go_num, HF.out.1, HF.out.2⟩, by simp [intOf]; omega⟩
        · have HKP := Lib.hid hkp
          clear hkp
          go_wp2_with fail
          have HC1 := Lib.hid (HC.out 0 (by omega))
          go_region_held3 (fun W => W.cell? ⟨g, 0, none⟩ = some (.slice (some ⟨s, 0, none⟩) sb.length cs) ∧ W.cell? ⟨g, 1, none⟩ = some (.slice (some ⟨q, 0, none⟩) ps.length cp) ∧ W.cell? ⟨q, k * 2, none⟩ = some (.int .i64 (i : Int)) ∧ W.cell? ⟨q, k * 2 + 1, none⟩ = some (.slice (some ⟨kk, 0, none⟩) 16 cc) ∧ W.cell? ⟨s, i, none⟩ = some (.slice (some ⟨sbi, 0, none⟩) 16 16) ∧ W.rangeAt kk 0 (Lib.byteCells b) ∧ W.there sbi 0 16) (first | assumption | exact HS.out | exact HG.out _ _ (by assumption))
            ((refine step_copy_cells (by rfl) (.tmp 63) (.tmp 73) 56 56 (by rfl) 5 Tryz.underlying56 sizeByte sbi 0 16 16 ⟨kk, 0, none⟩ 0 cc (by rfl) (by rfl) (Lib.byteCells (b.take 0)) (HL.out 0 (by omega)) (HC1.out _ (by assumption)).1 (HC1.out _ (by assumption)).2 (HO.out 0) ?_))
          have HF := Lib.hid (HN.out 0 HKP.out)
          go_wp2_with fail
          exact ⟨⟨k + 1, by omega, by go_num, HF.out.1, HF.out.2⟩, by simp [intOf]; omega⟩
        · have HKP := Lib.hid hkp
          clear hkp
          go_wp2_with fail
          have HC1 := Lib.hid (HC.out 16 (by omega))
          go_region_held3 (fun W => W.cell? ⟨g, 0, none⟩ = some (.slice (some ⟨s, 0, none⟩) sb.length cs) ∧ W.cell? ⟨g, 1, none⟩ = some (.slice (some ⟨q, 0, none⟩) ps.length cp) ∧ W.cell? ⟨q, k * 2, none⟩ = some (.int .i64 (i : Int)) ∧ W.cell? ⟨q, k * 2 + 1, none⟩ = some (.slice (some ⟨kk, 0, none⟩) 16 cc) ∧ W.cell? ⟨s, i, none⟩ = some (.slice (some ⟨sbi, 0, none⟩) 16 16) ∧ W.rangeAt kk 0 (Lib.byteCells b) ∧ W.there sbi 0 16) (first | assumption | exact HS.out | exact HG.out _ _ (by assumption))
            ((refine step_copy_cells (by rfl) (.tmp 63) (.tmp 73) 56 56 (by rfl) 5 Tryz.underlying56 sizeByte sbi 0 16 16 ⟨kk, 0, none⟩ 16 cc (by rfl) (by rfl) (Lib.byteCells (b.take 16)) (HL.out 16 (by omega)) (HC1.out _ (by assumption)).1 (HC1.out _ (by assumption)).2 (HO.out 16) ?_))
          have HF := Lib.hid (HN.out 16 HKP.out)
          go_wp2_with fail
          exact ⟨⟨k + 1, by omega, by go_num, HF.out.1, HF.out.2⟩, by simp [intOf]; omega⟩
        · have HKP := Lib.hid hkp
          clear hkp
          go_wp2_with fail
          have kp0 : (0 : Int) ≤ (kp : Int) := by omega
          have kpc : (kp : Int) ≤ (cc : Int) := by omega
          have HC1 := Lib.hid (HC.out kp (by omega))
          go_region_held3 (fun W => W.cell? ⟨g, 0, none⟩ = some (.slice (some ⟨s, 0, none⟩) sb.length cs) ∧ W.cell? ⟨g, 1, none⟩ = some (.slice (some ⟨q, 0, none⟩) ps.length cp) ∧ W.cell? ⟨q, k * 2, none⟩ = some (.int .i64 (i : Int)) ∧ W.cell? ⟨q, k * 2 + 1, none⟩ = some (.slice (some ⟨kk, 0, none⟩) 16 cc) ∧ W.cell? ⟨s, i, none⟩ = some (.slice (some ⟨sbi, 0, none⟩) 16 16) ∧ W.rangeAt kk 0 (Lib.byteCells b) ∧ W.there sbi 0 16) (first | assumption | exact HS.out | exact HG.out _ _ (by assumption))
            ((refine step_copy_cells (by rfl) (.tmp 63) (.tmp 73) 56 56 (by rfl) 5 Tryz.underlying56 sizeByte sbi 0 16 16 ⟨kk, 0, none⟩ kp cc (by rfl) (by rfl) (Lib.byteCells (b.take kp)) (HL.out kp (by omega)) (HC1.out _ (by assumption)).1 (HC1.out _ (by assumption)).2 (HO.out kp) ?_))
          have HF := Lib.hid (HN.out kp HKP.out)
          go_wp2_with fail
          exact ⟨⟨k + 1, by omega, by go_num, HF.out.1, HF.out.2⟩, by simp [intOf]; omega⟩
      · have kl1 : (d.left.length : Int) ≤ (k : Int) := by omega
        have hkp : 0 = keepOf d.left k := (keep_none d.left k (by omega)).symm
        obtain ⟨LL, hLL⟩ : ∃ LL, LL = d.left.length := ⟨_, rfl⟩
        rw [← hLL] at d3 kl1
        clear hx hilen hrk hcp n1 n2 n3 n4 hcpd hok1 hkl1 hb1 hxp hidl hsbi hkl hLL hc1 hc2 hs1 hs2 hbl hkw
        have HKP := Lib.hid hkp
        clear hkp
        go_wp2_with fail
        have HC1 := Lib.hid (HC.out 0 (by omega))
        go_region_held3 (fun W => W.cell? ⟨g, 0, none⟩ = some (.slice (some ⟨s, 0, none⟩) sb.length cs) ∧ W.cell? ⟨g, 1, none⟩ = some (.slice (some ⟨q, 0, none⟩) ps.length cp) ∧ W.cell? ⟨q, k * 2, none⟩ = some (.int .i64 (i : Int)) ∧ W.cell? ⟨q, k * 2 + 1, none⟩ = some (.slice (some ⟨kk, 0, none⟩) 16 cc) ∧ W.cell? ⟨s, i, none⟩ = some (.slice (some ⟨sbi, 0, none⟩) 16 16) ∧ W.rangeAt kk 0 (Lib.byteCells b) ∧ W.there sbi 0 16) (first | assumption | exact HS.out | exact HG.out _ _ (by assumption))
          ((refine step_copy_cells (by rfl) (.tmp 63) (.tmp 73) 56 56 (by rfl) 5 Tryz.underlying56 sizeByte sbi 0 16 16 ⟨kk, 0, none⟩ 0 cc (by rfl) (by rfl) (Lib.byteCells (b.take 0)) (HL.out 0 (by omega)) (HC1.out _ (by assumption)).1 (HC1.out _ (by assumption)).2 (HO.out 0) ?_))
        have HF := Lib.hid (HN.out 0 HKP.out)
        go_wp2_with fail
        exact ⟨⟨k + 1, by omega, by go_num, HF.out.1, HF.out.2⟩, by simp [intOf]; omega⟩
    · obtain rfl : k = ps.length := by omega
      have hpl : d.p.length = ps.length := by
        have := hrk.pok
        simp only at this
        rw [this, List.length_map]
      obtain ⟨at1, lv1, ar1, ⟨left1, hok1, hkl1⟩, hh1, -, d1, -, -, -, -, d6, df⟩ := hrk.cells
      have f1 := df 1
      have f6 := df 6
      have HF := Lib.hid (And.intro hrk (And.intro hkw (And.intro hh1 (And.intro hkl1 hpl))))
      clear hrk hkw hh1 hkl1 hok1 df hlt hk
      go_wp2_with fail
      go_ret
      obtain ⟨hrk, hkw, hh1, hkl1, hpl⟩ := HF.out
      refine ⟨rfl, ?_, (hkw.setCell (.inl (.inl rfl)) _).setCell (.inl (.inl rfl)) _⟩
      rw [← hpl] at hrk
      refine hrk.redrop (fun j hj => ?_) (by simp [World.setCell]) (fun j hj => ?_) ?_ rfl ⟨at1, lv1, ar1, ?_, left1, (fun h => by cases h), hkl1⟩
      · rw [heap_setCell_ne _ _ _ _ hj, heap_setCell_ne _ _ _ _ hj]
      · exact dropped_fl d.torn j hj
      · exact dropped_len d.torn
      · rw [heap_set (heap_set hh1 _ _) _ _]
        rfl
end
end Go.Proofs.YtilplpjdbkipoaaGreatDoor

namespace Go.Proofs.YtilplpjdbkipoaaGreatDoor
open Go Go.RowKit DiskMath NetMem SpanMath

section
variable {w0 w wr : World} {g : Nat} {sv pv : Value} {sb : List Nat} {ps : Pend} {d : Dk}

theorem flush_next (d : Dk) (k i : Nat) (b : List UInt8) (hx : d.p[k]? = some (i, b)) (hi : i < d.s.length) (j : Nat) :
    fl { d with s := iter (flushR d.p) (k + 1) d.s } j = if j = i then b else fl { d with s := iter (flushR d.p) k d.s } j := by
  obtain ⟨L, hL⟩ : ∃ L, L = iter (flushR d.p) k d.s := ⟨_, rfl⟩
  have hl : L.length = d.s.length := by rw [hL]; exact iter_length (flushR_length d.p) _ _
  show (((flushR d.p k (iter (flushR d.p) k d.s))[j]?).getD ([], [])).1 = if j = i then b else (((iter (flushR d.p) k d.s)[j]?).getD ([], [])).1
  rw [← hL]
  unfold flushR
  rw [hx]
  simp only
  by_cases e : j = i
  · subst e
    rw [if_pos rfl, fl_modify _ _ _ _ (by omega), if_pos rfl]
  · rw [if_neg e, mod_at (Ne.symm e)]
def RelRF (w0 : World) (g : Nat) (sv pv : Value) (sb : List Nat) (ps : Pend) (d : Dk) (w : World) (i : Value) (wr : World) : Prop :=
  ∃ k : Nat, k ≤ ps.length ∧ i = .int .i64 (k : Int) ∧ RefM w0 wr g sv pv sb ps { d with s := iter (flushR d.p) k d.s } ∧ Kept (fun k => k = g ∨ k ∈ sb) w wr

theorem rflush_down (h : RefM w0 w g sv pv sb ps d) (hd : d.down = true) :
    Calls Tryz.prog 52 #[.pointer (some ⟨g, 0, none⟩)] w fun e w' => e = .returned (.int .i64 5) ∧ w = w' := by
  obtain ⟨at_, lv, ar, -, -, -, -, -, -, -, -, c6, -⟩ := h.cells
  rw [hd] at c6
  clear h hd
  go_enter Tryz.func52, Tryz.ntmps52
  go_wp2_with fail
  go_ret
  exact ⟨rfl, rfl⟩

theorem rflush_hit (h : RefM w0 w g sv pv sb ps d) (hd : d.down = false) (hh : d.hits = true) (hb0 : Below w0.heap.size w0 w) (hge : ∀ k, (k = g ∨ k ∈ sb) → w0.heap.size ≤ k) :
    Calls Tryz.prog 52 #[.pointer (some ⟨g, 0, none⟩)] w fun e w' => e = .returned (.int .i64 5) ∧ RefM w0 w' g sv (.slice none 0 0) sb [] d.crashed ∧ Kept (fun k => k = g ∨ k ∈ sb) w w' := by
  obtain ⟨at_, lv, ar, -, -, -, -, -, -, -, -, c6, -⟩ := h.cells
  have HC := Lib.hid (rcrash_hit h hd hh hb0 hge)
  rw [hd] at c6
  clear h hd hh hb0 hge
  go_enter Tryz.func52, Tryz.ntmps52
  go_wp2_with fail
  refine HC.out.mono ?_
  rintro e w1 ⟨rfl, h1, h2⟩
  have H1 := Lib.hid (And.intro h1 h2)
  clear h1 h2
  go_wp2_with fail
  go_ret
  exact ⟨rfl, H1.out.1, H1.out.2⟩

set_option maxHeartbeats 8000000 in
set_option maxRecDepth 100000 in
theorem rflush_go (h : RefM w0 w g sv pv sb ps d) (hd : d.down = false) (hh : d.hits = false) (hn : d.n < 4611686018427387904) :
    Calls Tryz.prog 52 #[.pointer (some ⟨g, 0, none⟩)] w fun e w' => e = .returned (.int .i64 0) ∧ RefM w0 w' g sv (.slice none 0 0) sb [] d.flushed ∧ Kept (fun k => k = g ∨ k ∈ sb) w w' := by
  obtain ⟨at_, lv, ar, -, -, -, -, -, -, -, -, c6, -⟩ := h.cells
  have HCR := Lib.hid (rcrash_not h hd hh)
  rw [hd] at c6
  obtain ⟨ap, cp, hpv, hp1, hp2, -⟩ := h.pv_at
  unfold maxLen at hp2
  subst hpv
  have HH := Lib.hid h
  have hn1 : (d.n : Int) < 4611686018427387904 := by omega
  clear h hd hh hn
  go_enter Tryz.func52, Tryz.ntmps52
  go_wp2_with fail
  refine HCR.out.mono ?_
  rintro e w1 ⟨rfl, hk0⟩
  have HD0 := Lib.hid (HH.out.far hk0 fun _ _ h => h)
  have HK0 := Lib.hid (show Kept (fun k => k = g ∨ k ∈ sb) w w1 from hk0.mono fun _ _ h => h.elim)
  clear hk0
  go_wp2_with fail
  go_loopw [3] (fun i wr => RelRF w0 g sv (.slice ap ps.length cp) sb ps d w i wr) (fun i _ => ps.length - (intOf i).toNat)
  case atStart => exact ⟨0, by omega, rfl, HD0.out, HK0.out⟩
  case round =>
    clear c6
    obtain ⟨k, hk, rfl, hrk, hkw⟩ := hrel
    by_cases hlt : k < ps.length
    · obtain ⟨x, hx⟩ : ∃ x, x = ps[k] := ⟨_, rfl⟩
      obtain ⟨qv, i, b⟩ := x
      have hilen := (hrk.pown ps[k] (List.getElem_mem hlt)).2.1
      rw [← hx] at hilen
      obtain ⟨q, s, kk, ap', asv, cp', cs, cc, hi, hpv', -, -, hap, hsv, hs1, hs2, hass, hqv, hc1, hc2, hbl, hcp, n1, n2, n3, n4⟩ := hrk.copyS_at hlt hx
      simp only [Value.slice.injEq] at hpv'
      obtain ⟨rfl, -, rfl⟩ := hpv'
      subst hap hass hqv hsv
      obtain ⟨at1, lv1, ar1, -, -, -, d1, -, -, -, -, -, -⟩ := hrk.cells
      have hxp : d.p[k]? = some (i, b) := by
        have h1 := hrk.pok
        simp only at h1
        rw [h1, List.getElem?_map, List.getElem?_eq_getElem hlt, ← hx]
        rfl
      have hidl : i < d.s.length := by
        have : i < (iter (flushR d.p) k d.s).length := hilen
        rwa [iter_length (flushR_length d.p)] at this
      obtain ⟨sbi, hsbi⟩ : ∃ sbi, sbi = sb[i] := ⟨_, rfl⟩
      rw [← hsbi] at hcp n1 n2 n3 n4
      have HX := Lib.hid (And.intro hxp (And.intro hidl (And.intro hbl (And.intro hi (And.intro hrk (And.intro hkw hsbi))))))
      have hcpd := hcp.drew
      unfold copyS at hcpd
      have HS := Lib.hid hcpd
      have HG := Lib.hid (fun (W : World) (ds : List Value) (h : copyS g q s kk sbi k i (.slice (some ⟨s, 0, none⟩) sb.length cs) (.slice (some ⟨q, 0, none⟩) ps.length cp) (.slice (some ⟨kk, 0, none⟩) 16 cc) (Lib.byteCells b) W) => h.store n1 n2 n3 n4 ds)
      have HC := Lib.hid (fun (W : World) (h : copyS g q s kk sbi k i (.slice (some ⟨s, 0, none⟩) sb.length cs) (.slice (some ⟨q, 0, none⟩) ps.length cp) (.slice (some ⟨kk, 0, none⟩) 16 cc) (Lib.byteCells b) W) => show (∀ j v, (Lib.byteCells b)[j]? = some v → W.cell? ((⟨kk, 0, none⟩ : Addr).add j) = some v) ∧ W.there sbi 0 (Lib.byteCells b).length from ⟨fun j v hv => by
        rw [Lib.add_plain]
        exact h.2.2.2.2.2.1 j v hv, fun j hj => h.2.2.2.2.2.2 j (by rw [bl, hbl] at hj; omega)⟩)
      have HL := Lib.hid (show (Lib.byteCells b).length = Nat.min 16 16 from by rw [bl, hbl]; rfl)
      have HO := Lib.hid (show ∀ v ∈ Lib.byteCells b, v.oneCell' = true from oneCell_bytes _)
      have HN := Lib.hid (show RefM w0 (wr.drew.setCells sbi 0 (Lib.byteCells b)) g (.slice (some ⟨s, 0, none⟩) sb.length cs) (.slice (some ⟨q, 0, none⟩) ps.length cp) sb ps { d with s := iter (flushR d.p) (k + 1) d.s } ∧ Kept (fun k => k = g ∨ k ∈ sb) w (wr.drew.setCells sbi 0 (Lib.byteCells b)) from by
        obtain ⟨hxp, hidl, hbl, hi, hrk, hkw, hsbi⟩ := HX.out
        have hrk' := hrk.far (D := fun _ => False) ((Kept.refl _ wr).drew) (fun _ _ h => h)
        have hb16 : b.take 16 = b := List.take_of_length_le (by omega)
        have hfl := (hrk'.sec i hi).2.2
        have ht := hrk'.tear i hi b hbl 16 (Nat.le_refl _) (s' := iter (flushR d.p) (k + 1) d.s) (by rw [iter, flushR_length]) ((flush_next d k i b hxp hidl i).trans (by rw [if_pos rfl, hb16, List.drop_of_length_le (by omega), List.append_nil])) (fun j hj => (flush_next d k i b hxp hidl j).trans (if_neg hj))
        rw [hb16] at ht
        rw [hsbi]
        exact ⟨ht, hkw.drew.setCells (.inl (.inr (by exact List.getElem_mem hi))) _ _⟩)
      have i0 : (0 : Int) ≤ (i : Int) := by omega
      have i1 : (i : Int) < (sb.length : Int) := by omega
      have k1 : (k : Int) < (ps.length : Int) := by omega
      have cs2 : (cs : Int) ≤ 9223372036854775807 := by unfold maxLen at hs2; omega
      clear hx hilen hrk hcp n1 n2 n3 n4 hcpd hxp hidl hsbi hc1 hc2 hs1 hs2 hbl hkw
      go_wp2_with fail
      go_region_held3 (fun W => W.cell? ⟨g, 0, none⟩ = some (.slice (some ⟨s, 0, none⟩) sb.length cs) ∧ W.cell? ⟨g, 1, none⟩ = some (.slice (some ⟨q, 0, none⟩) ps.length cp) ∧ W.cell? ⟨q, k * 2, none⟩ = some (.int .i64 (i : Int)) ∧ W.cell? ⟨q, k * 2 + 1, none⟩ = some (.slice (some ⟨kk, 0, none⟩) 16 cc) ∧ W.cell? ⟨s, i, none⟩ = some (.slice (some ⟨sbi, 0, none⟩) 16 16) ∧ W.rangeAt kk 0 (Lib.byteCells b) ∧ W.there sbi 0 16) (first | assumption | exact HS.out | exact HG.out _ _ (by assumption))
        ((refine step_copy_cells (by rfl) (.tmp 34) (.tmp 42) 56 56 (by rfl) 5 Tryz.underlying56 sizeByte sbi 0 16 16 ⟨kk, 0, none⟩ 16 cc (by rfl) (by rfl) (Lib.byteCells b) HL.out (HC.out _ (by assumption)).1 (HC.out _ (by assumption)).2 HO.out ?_))
      have HF := Lib.hid HN.out
      go_wp2_with fail
      exact ⟨⟨k + 1, by omega, by go_num, HF.out.1, HF.out.2⟩, by simp [intOf]; omega⟩
    · obtain rfl : k = ps.length := by omega
      have hpl : d.p.length = ps.length := by
        have := hrk.pok
        simp only at this
        rw [this, List.length_map]
      obtain ⟨at1, lv1, ar1, hok1, hh1, -, d1, -, -, d4, -, -, df⟩ := hrk.cells
      simp only at d4
      have f1 := df 1
      have f4 := df 4
      have HF := Lib.hid (And.intro hrk (And.intro hkw (And.intro hh1 (And.intro hok1 hpl))))
      clear hrk hkw hh1 hok1 df hlt hk
      go_wp2_with fail
      go_ret
      obtain ⟨hrk, hkw, hh1, hok1, hpl⟩ := HF.out
      refine ⟨rfl, ?_, (hkw.setCell (.inl (.inl rfl)) _).setCell (.inl (.inl rfl)) _⟩
      rw [← hpl] at hrk
      refine hrk.redrop (fun j hj => ?_) (by simp [World.setCell]) (fun j hj => rfl) rfl rfl ⟨at1, lv1, ar1, ?_, hok1⟩
      · rw [heap_setCell_ne _ _ _ _ hj, heap_setCell_ne _ _ _ _ hj]
      · rw [heap_set (heap_set hh1 _ _) _ _]
        rfl
end
end Go.Proofs.YtilplpjdbkipoaaGreatDoor

namespace Go.Proofs.YtilplpjdbkipoaaGreatDoor
open Go Go.RowKit DiskMath NetMem SpanMath

theorem own_of_row {w : World} {B : Nat} {e : TypeId} {v : Value} {n : Nat} {l : List UInt8} (h : w.ownsRow B e 1 v n (Lib.byteCells l)) : NetMem.Own w B v l := by
  obtain ⟨h1, h2⟩ := h
  rw [bl, Nat.mul_one] at h1
  rcases h2 with ⟨rfl, rfl⟩ | ⟨g, cap, cur, rfl, hB, hg, hl, hm, hs, ht⟩
  · exact .inl ⟨rfl, List.eq_nil_of_length_eq_zero h1⟩
  · rw [Nat.mul_one] at hs ht
    have hc : ∀ j, w.cell? ⟨g, j, none⟩ = cur[j]? := fun j => cell_of_row w g j _ _ _ hg
    refine .inr ⟨g, cap, by rw [h1], hB, (Array.getElem?_eq_some_iff.1 hg).1, by omega, hm, fun j hj => ⟨?_, ?_⟩, fun j hj => ?_⟩
    · rw [hc, Array.getElem?_eq_getElem (by omega)]; rfl
    · simp [World.frozen?, hg]
    · rw [hc]
      have h3 : (Lib.byteCells l)[j]? = cur.toList[j]? := by
        rw [← ht, List.getElem?_take, if_pos (by omega)]
      rw [bc_at l j hj] at h3
      rw [h3]; simp

theorem own_up {w : World} {B : Nat} {v : Value} {l : List UInt8} (h : NetMem.Own w 0 v l) (hb : ∀ k, v.ownBlock = some k → B ≤ k) : NetMem.Own w B v l := by
  rcases h with h | ⟨g, cap, rfl, -, r⟩
  · exact .inl h
  · exact .inr ⟨g, cap, rfl, hb g rfl, r⟩

section
variable {w0 w w' : World} {g : Nat} {sv pv : Value} {sb : List Nat} {ps : Pend} {d : Dk}

/-- What is pending, with one write more. -/
theorem RefM.push (h : RefM w0 w g sv pv sb ps d) {i : Nat} {l : List UInt8} (hi : i < d.s.length) (hl : l.length = 16) (q2 cap2 : Nat) (v : Value)
    (hown : w'.ownsRow 0 116 2 (.slice (some ⟨q2, 0, none⟩) (ps.length + 1) cap2) (ps.length + 1) (qcells ps ++ qcell (v, i, l)))
    (hk : ∀ k, k < w.heap.size → pv.ownBlock ≠ some k → w'.heap[k]? = w.heap[k]?) (hsz : w.heap.size ≤ w'.heap.size) (hat : pv.ownBlock = some q2 ∨ w.heap.size ≤ q2) (hv : NetMem.Own w' w.heap.size v l) (hvq : ∀ k, v.ownBlock = some k → k ≠ q2) :
    RefM w0 (w'.setCell ⟨g, 1, none⟩ (.slice (some ⟨q2, 0, none⟩) (ps.length + 1) cap2)) g sv (.slice (some ⟨q2, 0, none⟩) (ps.length + 1) cap2) sb (ps ++ [(v, i, l)]) { d with p := d.p ++ [(i, l)] } := by
  have hg := h.glt
  have hset : ∀ (u : Value) k, k ≠ g → (w'.setCell ⟨g, 1, none⟩ u).heap[k]? = w'.heap[k]? := fun u k hk => heap_setCell_ne w' ⟨g, 1, none⟩ u k hk
  have hss : ∀ u : Value, (w'.setCell ⟨g, 1, none⟩ u).heap.size = w'.heap.size := fun u => by simp [World.setCell]
  have hq2 : ∀ k, k < w.heap.size → pv.ownBlock ≠ some k → k ≠ q2 := fun k hk hn e => by
    subst e
    rcases hat with h | h
    · exact hn h
    · omega
  have hqb : ∀ k, (Value.slice (some ⟨q2, 0, none⟩) (ps.length + 1) cap2).ownBlock = some k → k = q2 := fun k hk => by
    have : q2 = k := by simpa [Value.ownBlock] using hk
    exact this.symm
  have hvlt : ∀ k, v.ownBlock = some k → w.heap.size ≤ k := fun k hk => (hv.lt k hk).1
  exact
  { head := by
      obtain ⟨at_, lv, ar, h1, h2⟩ := h.head
      refine ⟨at_, lv, ar, ?_, h2⟩
      rw [heap_set ((hk g hg h.pg).trans h1)]
      rfl
    srow := ownsRow_block h.srow fun k hk' => by
      have hlt := (h.srow.lt k hk').2
      rw [hset _ k (fun e => h.sg (by rw [hk', e]))]
      exact hk k hlt (h.sp k hk')
    slen := h.slen
    smax := h.smax
    sec := fun j hj => by
      obtain ⟨g1, g2, g3, g4⟩ := h.gs sb[j] (List.getElem_mem hj)
      have hn : (w'.setCell ⟨g, 1, none⟩ (.slice (some ⟨q2, 0, none⟩) (ps.length + 1) cap2)).heap[sb[j]]? = w.heap[sb[j]]? := (hset _ _ g1).trans (hk _ g4 g3)
      exact ⟨rangeAt_block (h.sec j hj).1 hn, there_block (h.sec j hj).2.1 hn, (h.sec j hj).2.2⟩
    prow := by
      rw [qcells_snoc]
      have e : (ps ++ [(v, i, l)]).length = ps.length + 1 := by simp
      rw [e]
      exact ownsRow_block hown fun k hk' => hset _ k fun e => hq2 g hg h.pg (by rw [← hqb k hk', e])
    pok := by
      show d.p ++ [(i, l)] = _
      rw [h.pok, List.map_append]; rfl
    pown := fun x hx => by
      rcases List.mem_append.1 hx with hx | hx
      · refine ⟨(h.pown x hx).1.keep (by rw [hss]; exact hsz) fun k hk' => ?_, (h.pown x hx).2⟩
        obtain ⟨q1, -, q3, -⟩ := h.qo x hx k hk'
        exact (hset _ k q1).trans (hk k ((h.pown x hx).1.lt k hk').2 q3)
      · obtain rfl : x = (v, i, l) := by simpa using hx
        exact ⟨(hv.mono (Nat.zero_le _)).keep (by rw [hss]; exact Nat.le_refl _) fun k hk' => hset _ k fun e => by have := hvlt k hk'; omega, hi, hl⟩
    nd := h.nd
    gs := fun b hb => by
      obtain ⟨g1, g2, g3, g4⟩ := h.gs b hb
      exact ⟨g1, g2, fun e => hq2 b g4 g3 (hqb b e), by rw [hss]; omega⟩
    sg := h.sg
    pg := fun e => hq2 g hg h.pg (hqb g e)
    sp := fun k hk' e => hq2 k (h.srow.lt k hk').2 (h.sp k hk') (hqb k e)
    qo := fun x hx k hk' => by
      rcases List.mem_append.1 hx with hx | hx
      · obtain ⟨q1, q2', q3, q4⟩ := h.qo x hx k hk'
        exact ⟨q1, q2', fun e => hq2 k ((h.pown x hx).1.lt k hk').2 q3 (hqb k e), q4⟩
      · obtain rfl : x = (v, i, l) := by simpa using hx
        have := hvlt k hk'
        refine ⟨fun e => by omega, fun e => by have := (h.srow.lt k e).2; omega, fun e => hvq k hk' (hqb k e), fun e => by have := (h.gs k e).2.2.2; omega⟩ }

theorem rwrite_down (h : RefM w0 w g sv pv sb ps d) (i : Int) (v : Value) (hd : d.down = true) :
    Calls Tryz.prog 51 #[.pointer (some ⟨g, 0, none⟩), .int .i64 i, v] w fun e w' => e = .returned (.int .i64 5) ∧ w = w' := by
  obtain ⟨at_, lv, ar, -, -, -, -, -, -, -, -, c6, -⟩ := h.cells
  rw [hd] at c6
  clear h hd
  go_enter Tryz.func51, Tryz.ntmps51
  go_wp2_with fail
  go_ret
  exact ⟨rfl, rfl⟩
theorem rwrite_long (h : RefM w0 w g sv pv sb ps d) (i : Int) (p : Option Addr) (n c : Nat) (hd : d.down = false) (hn : n ≠ 16) :
    Calls Tryz.prog 51 #[.pointer (some ⟨g, 0, none⟩), .int .i64 i, .slice p n c] w fun e w' => e = .returned (.int .i64 1) ∧ w = w' := by
  obtain ⟨at_, lv, ar, -, -, -, -, -, -, -, -, c6, -⟩ := h.cells
  rw [hd] at c6
  have hne : ((n : Int) != 16) = true := by simp; omega
  clear h hd hn
  go_enter Tryz.func51, Tryz.ntmps51
  go_wp2_with fail
  go_ret
  exact ⟨rfl, rfl⟩
theorem has_false {d : Dk} {i : Int} (h : d.has i = false) : i < 0 ∨ 0 ≤ i ∧ (d.s.length : Int) ≤ i := by
  simp only [Dk.has, Bool.and_eq_false_iff, decide_eq_false_iff_not] at h
  omega
set_option maxHeartbeats 1000000 in
theorem rwrite_none (h : RefM w0 w g sv pv sb ps d) (i : Int) (p : Option Addr) (c : Nat) (hd : d.down = false) (hi : d.has i = false) :
    Calls Tryz.prog 51 #[.pointer (some ⟨g, 0, none⟩), .int .i64 i, .slice p 16 c] w fun e w' => e = .returned (.int .i64 4) ∧ w = w' := by
  obtain ⟨at_, lv, ar, -, -, c0, -, -, -, -, -, c6, -⟩ := h.cells
  obtain ⟨asv, cs, hsv, -, -, -⟩ := h.sv_at
  rw [hd] at c6
  rw [hsv, h.slen] at c0
  have hh := has_false hi
  obtain ⟨N, hN⟩ : ∃ N, N = d.s.length := ⟨_, rfl⟩
  rw [← hN] at c0 hh
  clear h hd hi hN hsv
  rcases hh with h1 | ⟨h1, h2⟩
  all_goals
    go_enter Tryz.func51, Tryz.ntmps51
    go_wp2_with fail
    go_ret
    exact ⟨rfl, rfl⟩
set_option maxHeartbeats 1000000 in
theorem rwrite_hit (h : RefM w0 w g sv pv sb ps d) (i : Int) (p : Option Addr) (c : Nat) (hd : d.down = false) (hi : d.has i = true) (hh : d.hits = true) (hb0 : Below w0.heap.size w0 w) (hge : ∀ k, (k = g ∨ k ∈ sb) → w0.heap.size ≤ k) :
    Calls Tryz.prog 51 #[.pointer (some ⟨g, 0, none⟩), .int .i64 i, .slice p 16 c] w fun e w' => e = .returned (.int .i64 5) ∧ RefM w0 w' g sv (.slice none 0 0) sb [] d.crashed ∧ Kept (fun k => k = g ∨ k ∈ sb) w w' := by
  obtain ⟨at_, lv, ar, -, -, c0, -, -, -, -, -, c6, -⟩ := h.cells
  have HC := Lib.hid (rcrash_hit h hd hh hb0 hge)
  obtain ⟨asv, cs, hsv, -, -, -⟩ := h.sv_at
  rw [hd] at c6
  have hb : 0 ≤ i ∧ i < (d.s.length : Int) := by simpa [Dk.has] using hi
  subst hsv
  rw [h.slen] at c0
  obtain ⟨N, hN⟩ : ∃ N, N = d.s.length := ⟨_, rfl⟩
  rw [← hN] at c0 hb
  have i0 := hb.1
  have i1 := hb.2
  clear h hd hi hN hb hh hb0 hge
  go_enter Tryz.func51, Tryz.ntmps51
  go_wp2_with fail
  refine HC.out.mono ?_
  rintro e w1 ⟨rfl, h1, h2⟩
  have H1 := Lib.hid (And.intro h1 h2)
  clear h1 h2
  go_wp2_with fail
  go_ret
  exact ⟨rfl, H1.out.1, H1.out.2⟩

theorem infoB8 : (Tryz.prog.info? 5).map (fun i => (i.zero, i.size, i.bytes)) = some (some (.int .u8 0), 1, 1) := by kernel_rfl
theorem infoW : (Tryz.prog.info? 116).map (fun i => (i.zero, i.size, i.bytes)) = some (some (.agg #[.int .i64 0, .slice none 0 0]), 2, 32) := by kernel_rfl

set_option maxHeartbeats 8000000 in
set_option maxRecDepth 100000 in
theorem rwrite_go (h : RefM w0 w g sv pv sb ps d) (i : Nat) (p : Option Addr) (c : Nat) (l : List UInt8) (hd : d.down = false) (hi : i < d.s.length) (hh : d.hits = false) (hr : Row w (.slice p 16 c) l) (hn : d.n < 4611686018427387904) (hp : ps.length < 4294967296) :
    Calls Tryz.prog 51 #[.pointer (some ⟨g, 0, none⟩), .int .i64 (i : Int), .slice p 16 c] w fun e w' => e = .returned (.int .i64 0) ∧ ∃ q cap v, RefM w0 w' g sv (.slice (some ⟨q, 0, none⟩) (ps.length + 1) cap) sb (ps ++ [(v, i, l)]) (d.put i l) ∧
      Kept (fun k => k = g ∨ pv.ownBlock = some k) w w' ∧ (pv.ownBlock = some q ∨ w.heap.size ≤ q) ∧ ∀ k, v.ownBlock = some k → w.heap.size ≤ k := by
  obtain ⟨at0, lv, ar, -, -, c0, -, -, -, -, -, c6, -⟩ := h.cells
  have HCR := Lib.hid (rcrash_not h hd hh)
  obtain ⟨asv, cs, hsv, -, -, -⟩ := h.sv_at
  rw [hd] at c6
  subst hsv
  have hslen := h.slen
  obtain ⟨N, hN⟩ : ∃ N, N = sb.length := ⟨_, rfl⟩
  rw [← hN] at c0
  have i0 : (0 : Int) ≤ (i : Int) := by omega
  have i1 : (i : Int) < (N : Int) := by omega
  have HH := Lib.hid (And.intro h (And.intro hr (And.intro hN hi)))
  have HP := Lib.hid (And.intro hn hp)
  clear h hd hh hr hN hn hslen hi hp
  go_enter Tryz.func51, Tryz.ntmps51
  go_wp2_with fail
  refine HCR.out.mono ?_
  rintro e w1 ⟨rfl, hk0⟩
  have hm := HH.out.1.far hk0 fun _ _ h => h
  obtain ⟨hl16, hlc, hcm, hcc⟩ := Row.nums HH.out.2.1
  obtain ⟨bb, o, rfl, hrow⟩ := hcc (by omega)
  have HK0 := Lib.hid hk0
  have HM := Lib.hid hm
  obtain ⟨at1, lv1, ar1, -, -, -, c1, -, -, c4, -, -, cf⟩ := hm.cells
  have hgl := hm.glt
  obtain ⟨iB, hiB, zB, sB, bB⟩ := info_parts infoB8
  obtain ⟨iW, hiW, zW, sW, bW⟩ := info_parts infoW
  have HI := Lib.hid (And.intro hiB (And.intro zB (And.intro sB (And.intro bB (And.intro hiW (And.intro zW (And.intro sW bW)))))))
  have hk1 : ∀ o1, (w1.alloc o1).cell? ⟨g, 1, none⟩ = some pv := fun o1 => (World.cell?_alloc_lt _ _ _ hgl).trans c1
  have HA := Lib.hid (show ((w1.alloc (.cells #[] 5)).drew).ownsRow 0 5 1 (.slice (some ⟨w1.heap.size, 0, none⟩) 0 0) 0 [] from World.ownsRow_made w1 #[] 0 (Nat.zero_le _) (by simp [maxLen]) rfl)
  have HNA := Lib.hid (show ∀ j u, (Lib.byteCells l)[j]? = some u → ((w1.alloc (.cells #[] 5)).drew).cell? ((⟨bb, o, none⟩ : Addr).add j) = some u from fun j u hu => by
    have hj : j < l.length := by have := (List.getElem?_eq_some_iff.1 hu).1; rwa [bl] at this
    rw [bc_at l j hj] at hu
    rw [Lib.add_plain, ← hu]
    have h1 : w1.cell? ⟨bb, o + j, none⟩ = some (.int .u8 (l[j].toNat : Int)) := hk0.cell (hrow j hj) (fun h => h)
    exact (World.cell?_alloc_lt _ _ _ (World.block_lt_of_cell? w1 _ h1)).trans h1)
  have HLN := Lib.hid (show (Lib.byteCells l).length = 16 * 1 from by rw [bl]; omega)
  have HL1 := Lib.hid (show ∀ u ∈ Lib.byteCells l, u.oneCell' = true from oneCell_bytes l)
  have HGA := Lib.hid (show ∀ wA : World, ((w1.alloc (.cells #[] 5)).drew).grownBy wA (some w1.heap.size) → (∀ k, k < w1.heap.size → wA.heap[k]? = w1.heap[k]?) ∧ w1.heap.size < wA.heap.size from fun wA hg => ⟨fun k hk => (hg.block k (by show k < (w1.alloc _).heap.size; simp; omega) (by simp; omega)).trans (Below.heap_alloc _ _ _ hk), by
    have := hg.size
    have e : ((w1.alloc (.cells #[] 5)).drew).heap.size = w1.heap.size + 1 := by show (w1.alloc _).heap.size = _; simp
    omega⟩)
  have HF := Lib.hid (cf 1)
  clear hk0 hl16 hcc hrow hm hiB zB sB bB hiW zW sW bW cf c0 c6
  go_wp2_with fail
  go_region_law (first | (refine step_append_lies _ (by rfl) (.tmp 37) (.tmp 38) 56 (by rfl) 0 5 iB (.int .u8 0) 1 1 Tryz.underlying56 HI.out.1 HI.out.2.1 HI.out.2.2.1 HI.out.2.2.2.1 (by rfl) (by decide) (.slice (some ⟨w1.heap.size, 0, none⟩) 0 0) 0 [] (by rfl) HA.out ⟨bb, o, none⟩ 16 c (Lib.byteCells l) (by rfl) HLN.out HNA.out HL1.out (by decide) (by unfold maxLen; omega) (by omega) (by omega) (w1.heap.size + 1) (by simp) ?_; intro q1 cap1 wA hownA hgrowA hatA hltA; have hA1 := (HGA.out wA hgrowA).1; have hA2 := (HGA.out wA hgrowA).2; have hcA := (World.cell?_of_block (a := ⟨g, 1, none⟩) (hA1 g HM.out.glt)).trans c1; have hkA : ∀ o1, (wA.alloc o1).cell? ⟨g, 1, none⟩ = some pv := fun o1 => (World.cell?_alloc_lt _ _ _ (by show g < wA.heap.size; have := HM.out.glt; omega)).trans hcA; have HOA := Lib.hid (And.intro hownA (And.intro hgrowA (And.intro hatA (And.intro hltA (And.intro hA1 hA2))))); have HNB := Lib.hid (show ∀ j u, ([.int .i64 (i : Int), .slice (some ⟨q1, 0, none⟩) 16 cap1] : List Value)[j]? = some u → (wA.alloc (.cells #[.int .i64 (i : Int), .slice (some ⟨q1, 0, none⟩) 16 cap1] 116)).cell? ((⟨wA.heap.size, 0, none⟩ : Addr).add j) = some u from fun j u hu => by rw [Lib.add_plain, Nat.zero_add]; exact (new_cell wA #[.int .i64 (i : Int), .slice (some ⟨q1, 0, none⟩) 16 cap1] 116 j).trans (by simpa using hu)); have HOB := Lib.hid (show ∀ o1, (wA.alloc o1).ownsRow 0 116 2 pv ps.length (qcells ps) from fun o1 => (ownsRow_block HM.out.prow fun k hk => hA1 k (HM.out.prow.lt k hk).2).alloc o1); clear hownA hgrowA hatA hltA hA1 hA2) | (refine step_append_lies _ (by rfl) (.tmp 35) (.tmp 41) 53 (by rfl) 0 116 iW (.agg #[.int .i64 0, .slice none 0 0]) 2 32 Tryz.underlying53 HI.out.2.2.2.2.1 HI.out.2.2.2.2.2.1 HI.out.2.2.2.2.2.2.1 HI.out.2.2.2.2.2.2.2 (by rfl) (by decide) pv ps.length (qcells ps) (by rfl) (HOB.out _) ⟨wA.heap.size, 0, none⟩ 1 1 [.int .i64 (i : Int), .slice (some ⟨q1, 0, none⟩) 16 cap1] (by rfl) (by rfl) HNB.out (by intro u hu; simp only [List.mem_cons, List.not_mem_nil, or_false] at hu; rcases hu with rfl | rfl <;> rfl) (by decide) (by have := HP.out.2; unfold maxLen; omega) (by have := HP.out.2; omega) (by omega) (wA.heap.size + 1) (by simp) ?_; intro q2 cap2 wB hownB hgrowB hatB hltB; have hB1 : wB.cell? ⟨g, 1, none⟩ = some pv := (hgrowB.cell_far ⟨g, 1, none⟩ (by show g < (wA.alloc _).heap.size; have := HM.out.glt; have := HOA.out.2.2.2.2.2; simp; omega) (Ne.symm HM.out.pg)).trans (hkA _); have hB2 : wB.frozen? ⟨g, 1, none⟩ = false := (hgrowB.frozen_far ⟨g, 1, none⟩ (by show g < (wA.alloc _).heap.size; have := HM.out.glt; have := HOA.out.2.2.2.2.2; simp; omega) (Ne.symm HM.out.pg)).trans ((World.frozen?_of_block (a := ⟨g, 1, none⟩) ((Below.heap_alloc _ _ g (by have := HM.out.glt; have := HOA.out.2.2.2.2.2; omega)).trans (HOA.out.2.2.2.2.1 g HM.out.glt))).trans HF.out); have HOBB := Lib.hid (And.intro hownB (And.intro hgrowB (And.intro hatB hltB))); clear hownB hgrowB hatB hltB))
  all_goals
    have hpush : RefM w0 (wB.setCell ⟨g, 1, none⟩ (.slice (some ⟨q2, 0, none⟩) (ps.length + 1) cap2)) g (.slice asv sb.length cs) (.slice (some ⟨q2, 0, none⟩) (ps.length + 1) cap2) sb (ps ++ [(.slice (some ⟨q1, 0, none⟩) 16 cap1, i, l)]) { d with p := d.p ++ [(i, l)] } ∧ Kept (fun k => k = g ∨ pv.ownBlock = some k) w (wB.setCell ⟨g, 1, none⟩ (.slice (some ⟨q2, 0, none⟩) (ps.length + 1) cap2)) ∧ (pv.ownBlock = some q2 ∨ w.heap.size ≤ q2) ∧ w.heap.size ≤ q1 := by
      obtain ⟨hownA, hgrowA, hatA, hltA, hA1, hA2⟩ := HOA.out
      obtain ⟨hownB, hgrowB, hatB, hltB⟩ := HOBB.out
      have hl16 : l.length = 16 := by have := HLN.out; rwa [bl] at this
      have hq1 : w1.heap.size ≤ q1 := by
        rcases hatA with h | h
        · have : w1.heap.size = q1 := by simpa [Value.ownBlock] using h
          omega
        · omega
      have hkW : ∀ k, k < w1.heap.size → pv.ownBlock ≠ some k → wB.heap[k]? = w1.heap[k]? := fun k hk hn => (hgrowB.block k (by simp; omega) (Ne.symm hn)).trans ((Below.heap_alloc _ _ k (by omega)).trans (hA1 k hk))
      have hszB : w1.heap.size ≤ wB.heap.size := by have := hgrowB.size; simp at this; omega
      have hpl : ∀ k, pv.ownBlock = some k → k < w1.heap.size := fun k hk => (HM.out.prow.lt k hk).2
      have hvA : NetMem.Own wA 0 (.slice (some ⟨q1, 0, none⟩) 16 cap1) l := own_of_row (n := 16) (show wA.ownsRow 0 5 1 (.slice (some ⟨q1, 0, none⟩) 16 cap1) 16 (Lib.byteCells l) from hownA)
      have hvB : NetMem.Own wB w1.heap.size (.slice (some ⟨q1, 0, none⟩) 16 cap1) l := by
        refine Own.keep (w := wA) (own_up hvA fun k hk => ?_) (by have := hgrowB.size; simp at this; omega) fun k hk => ?_
        · have : q1 = k := by simpa [Value.ownBlock] using hk
          omega
        · have : q1 = k := by simpa [Value.ownBlock] using hk
          subst this
          exact (hgrowB.block q1 (by simp; omega) (fun e => by have := hpl q1 e.symm; omega)).trans (Below.heap_alloc _ _ q1 hltA)
      refine ⟨HM.out.push HH.out.2.2.2 hl16 q2 cap2 _ hownB hkW hszB (hatB.imp id fun h => by omega) hvB (fun k hk e => ?_), ?_, ?_, by have := HK0.out.size; omega⟩
      · have : q1 = k := by simpa [Value.ownBlock] using hk
        subst this
        rcases hatB with h | h
        · have := hpl q2 h; omega
        · omega
      · refine Kept.setCell ?_ (.inl (.inl rfl)) _
        refine ⟨?_, ?_, ?_, by have := HK0.out.size; omega, fun k hk hn => (hkW k (by have := HK0.out.size; omega) fun e => hn (.inr e)).trans (HK0.out.block k hk (fun h => h))⟩
        · exact hgrowB.os.trans (hgrowA.os.trans HK0.out.os)
        · exact hgrowB.tape.trans (hgrowA.tape.trans HK0.out.tape)
        · exact hgrowB.output.trans (hgrowA.output.trans HK0.out.output)
      · exact hatB.imp id fun h => by have := HK0.out.size; omega
    have HQ := Lib.hid hpush
    obtain ⟨W2, hW2⟩ : ∃ W2, W2 = wB.setCell ⟨g, 1, none⟩ (.slice (some ⟨q2, 0, none⟩) (ps.length + 1) cap2) := ⟨_, rfl⟩
    rw [← hW2] at HQ hpush ⊢
    obtain ⟨at2, lv2, ar2, hok2, hh2, -, -, -, -, d4, -, -, df⟩ := hpush.1.cells
    simp only at d4
    have f4 := df 4
    have n1 : (d.n : Int) ≤ 4611686018427387903 := by have := HP.out.1; omega
    have n0 : (0 : Int) ≤ (d.n : Int) := by omega
    have HX := Lib.hid (And.intro hok2 hh2)
    clear hpush hW2 hok2 hh2 df hk1 hkA hcA c1 c4 hB1 hB2 HOA HOB HNB HOBB HA HNA HLN HL1 HGA HF HI
    go_wp2_with fail
    go_ret
    refine ⟨rfl, q2, cap2, _, HQ.out.1.rehead (fun j hj => heap_setCell_ne _ _ _ _ hj) (by simp [World.setCell]) (fun j hj => put_fl d i l j) (put_len d i l) rfl ⟨at2, lv2, ar2, ?_, HX.out.1⟩, HQ.out.2.1.setCell (.inl (.inl rfl)) _, HQ.out.2.2.1, fun k hk => ?_⟩
    · rw [heap_set HX.out.2 _ _]
      rfl
    · have : q1 = k := by simpa [Value.ownBlock] using hk
      have := HQ.out.2.2.2
      omega
end
end Go.Proofs.YtilplpjdbkipoaaGreatDoor

namespace Go.Proofs.YtilplpjdbkipoaaGreatDoor
open Go Go.RowKit DiskMath NetMem SpanMath

section
variable {w0 w : World} {g : Nat} {sv pv : Value} {sb : List Nat} {ps : Pend} {d : Dk}

theorem rread_out (h : RefM w0 w g sv pv sb ps d) (i : Int) (hi : d.has i = false) :
    Calls Tryz.prog 55 #[.pointer (some ⟨g, 0, none⟩), .int .i64 i] w fun e w' => e = .returned (.slice none 0 0) ∧ w = w' := by
  obtain ⟨at_, lv, ar, -, -, c0, -⟩ := h.cells
  obtain ⟨asv, cs, hsv, -, -, -⟩ := h.sv_at
  rw [hsv, h.slen] at c0
  have hh := has_false hi
  obtain ⟨N, hN⟩ : ∃ N, N = d.s.length := ⟨_, rfl⟩
  rw [← hN] at c0 hh
  clear h hi hN hsv
  rcases hh with h1 | ⟨h1, h2⟩
  all_goals
    go_enter Tryz.func55, Tryz.ntmps55
    go_wp2_with fail
    go_ret
    exact ⟨rfl, rfl⟩

def RelRR (w : World) (ps : Pend) (i : Nat) (x0 : List UInt8) (v idx : Value) (wr : World) : Prop :=
  ∃ (k : Nat) (q : Option Addr) (c : Nat), k ≤ ps.length ∧ v = .slice q 16 c ∧ idx = .int .i64 (k : Int) ∧ Row w (.slice q 16 c) (lastOf ((ps.map (·.2)).take k) i x0) ∧ w = wr

set_option maxHeartbeats 4000000 in
set_option maxRecDepth 100000 in
theorem rread_in (h : RefM w0 w g sv pv sb ps d) (i : Nat) (hi : i < d.s.length) :
    Calls Tryz.prog 55 #[.pointer (some ⟨g, 0, none⟩), .int .i64 (i : Int)] w fun e w' => ∃ v, e = .returned v ∧ NetMem.Own w' w.heap.size v (lastOf d.p i (fl d i)) ∧ Below w.heap.size w w' := by
  obtain ⟨at_, lv, ar, -, -, c0, c1, -⟩ := h.cells
  obtain ⟨asv, cs, hsv, hs1, hs2, hs⟩ := h.sv_at
  obtain ⟨ap, cp, hpv, hp1, hp2, hp⟩ := h.pv_at
  have hi' : i < sb.length := by rw [h.slen]; exact hi
  obtain ⟨s, hss, hsg, hs0, -⟩ := hs i hi'
  obtain ⟨hr0, -, hl0⟩ := h.sec i hi'
  have hrow0 : Row w (.slice (some ⟨sb[i], 0, none⟩) 16 16) (fl d i) := by
    have := range_row hr0 16 (by omega) (by omega)
    rwa [hl0] at this
  have hpok := h.pok
  have hrows : ∀ k (hk : k < ps.length), ∃ q c, ps[k].1 = .slice q 16 c ∧ Row w (.slice q 16 c) ps[k].2.2 := fun k hk => by
    obtain ⟨kk, cc, hv, h1, h2, -, -, -, -, -, hr⟩ := h.row_at k hk
    obtain ⟨-, -, hl⟩ := h.pown ps[k] (List.getElem_mem hk)
    refine ⟨_, cc, hv, ⟨_, cc, by rw [hl], by omega, h2, fun _ => ⟨kk, 0, rfl, fun j hj => ?_⟩⟩⟩
    have := hr j _ (bc_at _ j hj)
    exact this
  obtain ⟨x0, hx0⟩ : ∃ x0, x0 = fl d i := ⟨_, rfl⟩
  rw [← hx0] at hrow0 ⊢
  rw [hpok]
  obtain ⟨sbi, hsbi⟩ : ∃ z, z = sb[i] := ⟨_, rfl⟩
  rw [← hsbi] at hs0 hrow0
  have HP := Lib.hid (And.intro hp (And.intro hrows hrow0))
  subst hsv hpv hss
  obtain ⟨N, hN⟩ : ∃ N, N = sb.length := ⟨_, rfl⟩
  rw [← hN] at c0 hi'
  have i0 : (0 : Int) ≤ (i : Int) := by omega
  have i1 : (i : Int) < (N : Int) := by omega
  clear h hs hr0 hl0 hrow0 hpok hrows hx0 hsbi hN hp hi hi' hs1 hs2 hsg
  unfold maxLen at hp2
  go_enter Tryz.func55, Tryz.ntmps55
  go_wp2_with fail
  go_loopw [5, 6] (fun v idx wr => RelRR w ps i x0 v idx wr) (fun _ idx _ => ps.length - (intOf idx).toNat)
  case atStart => exact ⟨0, _, _, by omega, rfl, rfl, HP.out.2.2, rfl⟩
  case round =>
    obtain ⟨k, q, c, hk, rfl, rfl, hrow, rfl⟩ := hrel
    by_cases hlt : k < ps.length
    · obtain ⟨qq, hqq, -, hq0, hq1, -⟩ := HP.out.1 k hlt
      obtain ⟨q', c', hv', hrow'⟩ := HP.out.2.1 k hlt
      have htk : lastOf ((ps.map (·.2)).take (k + 1)) i x0 = if ps[k].2.1 = i then ps[k].2.2 else lastOf ((ps.map (·.2)).take k) i x0 := by
        have hkm : k < (ps.map (·.2)).length := by rw [List.length_map]; exact hlt
        have := lastOf_take (ps.map (·.2)) k i x0 hkm
        rw [List.getElem_map] at this
        exact this
      rw [hv'] at hq1
      subst hqq
      obtain ⟨z, hz⟩ : ∃ z : Nat, z = ps[k].2.1 := ⟨_, rfl⟩
      rw [← hz] at hq0 htk
      have HT := Lib.hid (And.intro htk (And.intro hrow hrow'))
      have k1 : (k : Int) < (ps.length : Int) := by omega
      clear htk hrow hrow' hv'
      by_cases hzi : z = i
      · have hb : ((z : Int) == (i : Int)) = true := by simp [hzi]
        have HE := Lib.hid hzi
        clear hz hzi
        go_wp2_with fail
        refine ⟨⟨k + 1, q', c', by omega, rfl, by go_num, ?_, rfl⟩, by simp [intOf]; omega⟩
        rw [HT.out.1, if_pos HE.out]
        exact HT.out.2.2
      · have hb : ((z : Int) == (i : Int)) = false := by simp; omega
        have HE := Lib.hid hzi
        clear hz hzi
        go_wp2_with fail
        refine ⟨⟨k + 1, q, c, by omega, rfl, by go_num, ?_, rfl⟩, by simp [intOf]; omega⟩
        rw [HT.out.1, if_neg HE.out]
        exact HT.out.2.1
    · obtain rfl : k = ps.length := by omega
      have hall : (ps.map (·.2)).take ps.length = ps.map (·.2) := List.take_of_length_le (by rw [List.length_map]; omega)
      rw [hall] at hrow
      obtain ⟨B, hB⟩ : ∃ B, B = lastOf (ps.map (·.2)) i x0 := ⟨_, rfl⟩
      rw [← hB] at hrow
      have HBB := Lib.hid hB
      have hBl : B.length = 16 := (Row.nums hrow).1.symm
      obtain ⟨i0', hi, hz0, hz1, hz2⟩ := info_parts info5
      have ho1 : NetMem.Own (w.alloc (.cells #[] 5)) w.heap.size (.slice (some ⟨w.heap.size, 0, none⟩) 0 0) [] := Own.made w 5 [] 0 (by simp) (by simp [maxLen]) #[] rfl (fun j h => by simp at h) _ (Nat.le_refl _)
      have hb1 : Below w.heap.size w (w.alloc (.cells #[] 5)) := (Below.refl _ w).alloc (Nat.le_refl _) _
      have hsrc := Row.src (P := Tryz.prog) (hrow.below hb1) Tryz.underlying56
      have HO := Lib.hid (And.intro ho1 (And.intro hb1 (And.intro hsrc hBl)))
      clear ho1 hb1 hsrc hrow hBl hB hall hlt hk
      go_wp2_with (at_builtin; refine wpList_append_bytes _ rfl _ _ 56 56 rfl 5 i0' Tryz.underlying56 hi hz0 hz1 hz2 w.heap.size _ _ rfl HO.out.1 _ B rfl HO.out.2.2.1 ?lim ?hB ?_)
      case lim => rw [HO.out.2.2.2]; simp
      case hB => exact HO.out.2.1.size
      intro v' w' ho3 hg3 hnil
      have HB := Lib.hid (And.intro ho3 (HO.out.2.1.grown hg3 HO.out.2.1.size (fun k hk => by simp [Value.ownBlock] at hk; omega)))
      clear ho3 hg3 hnil
      go_wp2_with fail
      go_ret
      exact ⟨_, rfl, by rw [← HBB.out]; simpa using HB.out.1, HB.out.2⟩
end
end Go.Proofs.YtilplpjdbkipoaaGreatDoor
