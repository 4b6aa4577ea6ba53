/-
  Proved: the statements' own disk: crash, where it is to crash: of each pending write so many bytes are left as the crash says. Conditions: the disk lies in memory; what was handed in could be read at the beginning.
-/
import Derived.Test.YtffjdpkgcgdfdaaRefTurn
namespace Go.Proofs.Ytffjdpkgcgdfdaa
open Go Go.RowKit DiskMath NetMem SpanMath

/-- What the round's copy finds. -/
def copyS (g q s kk sbi k i : Nat) (sv pv qv : Value) (cs : List Value) (W : World) : Prop :=
  W.cell? ⟨g, 0, none⟩ = some sv ∧ W.cell? ⟨g, 1, none⟩ = some pv ∧ W.cell? ⟨q, k * 2, none⟩ = some (.int .i64 (i : Int)) ∧ W.cell? ⟨q, k * 2 + 1, none⟩ = some qv ∧ W.cell? ⟨s, i, none⟩ = some (.slice (some ⟨sbi, 0, none⟩) 16 16) ∧ W.rangeAt kk 0 cs ∧ W.there sbi 0 16
theorem copyS.store {g q s kk sbi k i : Nat} {sv pv qv : Value} {cs : List Value} {W : World} (h : copyS g q s kk sbi k i sv pv qv cs W) (hg : g ≠ sbi) (hq : q ≠ sbi) (hs : s ≠ sbi) (hk : kk ≠ sbi) (ds : List Value) : copyS g q s kk sbi k i sv pv qv cs (W.setCells sbi 0 ds) := by
  have e : ∀ b o, b ≠ sbi → (W.setCells sbi 0 ds).cell? ⟨b, o, none⟩ = W.cell? ⟨b, o, none⟩ := fun b o hb => World.cell?_setCells_out sbi ds 0 W _ (fun e => absurd e hb)
  exact ⟨(e g 0 hg).trans h.1, (e g 1 hg).trans h.2.1, (e q _ hq).trans h.2.2.1, (e q _ hq).trans h.2.2.2.1, (e s _ hs).trans h.2.2.2.2.1, World.rangeAt_setCells_apart h.2.2.2.2.2.1 _ _ _ (.inl hk), World.there_setCells h.2.2.2.2.2.2 _ _ _⟩
theorem copyS.drew {g q s kk sbi k i : Nat} {sv pv qv : Value} {cs : List Value} {W : World} (h : copyS g q s kk sbi k i sv pv qv cs W) : copyS g q s kk sbi k i sv pv qv cs W.drew := by
  unfold copyS at h ⊢
  simpa using h

section
variable {w0 w wr : World} {g : Nat} {sv pv : Value} {sb : List Nat} {ps : Pend} {d : Dk}

/-- What a round finds. -/
theorem RefM.copyS_at (h : RefM w0 w g sv pv sb ps d) {k i : Nat} {qv : Value} {b : List UInt8} (hk : k < ps.length) (hx : (qv, i, b) = ps[k]) : ∃ (q s kk : Nat) (ap asv : Option Addr) (cp cs cc : Nat) (hi : i < sb.length), pv = .slice ap ps.length cp ∧ ps.length ≤ cp ∧ cp ≤ maxLen ∧ ap = some ⟨q, 0, none⟩ ∧
    sv = .slice asv sb.length cs ∧ sb.length ≤ cs ∧ cs ≤ maxLen ∧ asv = some ⟨s, 0, none⟩ ∧ qv = .slice (some ⟨kk, 0, none⟩) 16 cc ∧ 16 ≤ cc ∧ cc ≤ maxLen ∧ b.length = 16 ∧
    copyS g q s kk sb[i] k i sv pv qv (Lib.byteCells b) w ∧ g ≠ sb[i] ∧ q ≠ sb[i] ∧ s ≠ sb[i] ∧ kk ≠ sb[i] := by
  obtain ⟨ap, cp, hpv, hp1, hp2, hp⟩ := h.pv_at
  obtain ⟨asv, cs, hsv, hs1, hs2, hs⟩ := h.sv_at
  obtain ⟨q, hq, hqg, hq0, hq1, hqb⟩ := hp k hk
  obtain ⟨-, hil, hbl⟩ := h.pown ps[k] (List.getElem_mem hk)
  rw [← hx] at hil hbl hq0 hq1
  have hi : i < sb.length := by rw [h.slen]; exact hil
  obtain ⟨s, hss, hsg, hs0, hsb⟩ := hs i hi
  obtain ⟨kk, cc, hkv, hk1, hk2, hkg, -, -, hkb, hkl, hkr⟩ := h.row_at k hk
  rw [← hx] at hkv hkr
  obtain ⟨at_, lv, ar, -, -, c0, c1, -⟩ := h.cells
  exact ⟨q, s, kk, ap, asv, cp, cs, cc, hi, hpv, hp1, hp2, hq, hsv, hs1, hs2, hss, hkv, hk1, hk2, hbl, ⟨c0, c1, hq0, hq1, hs0, hkr, (h.sec i hi).2.1⟩, fun e => (h.gs _ (List.getElem_mem hi)).1 e.symm, fun e => hqb _ (List.getElem_mem hi) e.symm, fun e => hsb _ (List.getElem_mem hi) e.symm, fun e => hkb _ (List.getElem_mem hi) e.symm⟩

theorem crash_next (d : Dk) (k i : Nat) (b : List UInt8) (hx : d.p[k]? = some (i, b)) (hi : i < d.s.length) (j : Nat) :
    fl { d with s := iter (crashR d.left d.p) (k + 1) d.s } j = if j = i then b.take (keepOf d.left k) ++ (fl { d with s := iter (crashR d.left d.p) k d.s } i).drop (keepOf d.left k) else fl { d with s := iter (crashR d.left d.p) k d.s } j := by
  obtain ⟨L, hL⟩ : ∃ L, L = iter (crashR d.left d.p) k d.s := ⟨_, rfl⟩
  have hl : L.length = d.s.length := by rw [hL]; exact iter_length (crashR_length d.left d.p) _ _
  show (((crashR d.left d.p k (iter (crashR d.left d.p) k d.s))[j]?).getD ([], [])).1 = if j = i then b.take (keepOf d.left k) ++ (((iter (crashR d.left d.p) k d.s)[i]?).getD ([], [])).1.drop (keepOf d.left k) else (((iter (crashR d.left d.p) k d.s)[j]?).getD ([], [])).1
  rw [← hL]
  unfold crashR
  rw [hx]
  simp only
  by_cases e : j = i
  · subst e
    rw [if_pos rfl, fl_modify _ _ _ _ (by omega), if_pos rfl]
  · rw [if_neg e, mod_at (Ne.symm e)]
def RelRC (w0 : World) (g : Nat) (sv pv : Value) (sb : List Nat) (ps : Pend) (d : Dk) (w : World) (i : Value) (wr : World) : Prop :=
  ∃ k : Nat, k ≤ ps.length ∧ i = .int .i64 (k : Int) ∧ RefM w0 wr g sv pv sb ps { d with s := iter (crashR d.left d.p) k d.s } ∧ Kept (fun k => k = g ∨ k ∈ sb) w wr

theorem keep_num (l : List Int) (k : Nat) (hk : k < l.length) : (keepOf l k : Int) = max 0 (min l[k] 16) := by
  unfold keepOf
  rw [List.getD_eq_getElem?_getD, List.getElem?_eq_getElem hk, Option.getD_some]
  omega
theorem keep_none (l : List Int) (k : Nat) (hk : l.length ≤ k) : keepOf l k = 0 := by
  unfold keepOf
  rw [List.getD_eq_getElem?_getD, List.getElem?_eq_none hk, Option.getD_none]
  omega

set_option maxHeartbeats 8000000 in
set_option maxRecDepth 100000 in
theorem rcrash_hit (h : RefM w0 w g sv pv sb ps d) (hd : d.down = false) (hh : d.hits = true) (hb0 : Below w0.heap.size w0 w) (hge : ∀ k, (k = g ∨ k ∈ sb) → w0.heap.size ≤ k) :
    Calls Try.prog 55 #[.pointer (some ⟨g, 0, none⟩)] w fun e w' => e = .returned (.bool true) ∧ RefM w0 w' g sv (.slice none 0 0) sb [] d.crashed ∧ Kept (fun k => k = g ∨ k ∈ sb) w w' := by
  obtain ⟨at_, lv, ar, ⟨left, hok, hkl⟩, h1, c0, c1, c2, c3, c4, c5, c6, cf⟩ := h.cells
  obtain ⟨ha, hb⟩ := hok hd
  unfold Dk.hits at hh
  have har : d.armed = true := by
    cases e : d.armed
    · rw [e] at hh; cases hh
    · rfl
  obtain ⟨rfl, hleft⟩ := hb har
  rw [har] at ha hh
  subst ha
  obtain ⟨n, hn⟩ : ∃ z : Int, z = (d.n : Int) := ⟨_, rfl⟩
  rw [← hn] at hh c4
  obtain ⟨at_, hat⟩ : ∃ z : Int, z = d.at_ := ⟨_, rfl⟩
  rw [← hat] at hh c2
  have hle : at_ ≤ n := by simpa using hh
  obtain ⟨ap, cp, hpv, hp1, hp2, -⟩ := h.pv_at
  unfold maxLen at hp2
  rw [hpv] at c1
  rw [hpv] at h
  have HH := Lib.hid (And.intro h (And.intro hb0 (And.intro hge (And.intro hd har))))
  clear h h1 hok hb hd hh har hn hat cf hb0 hge hkl hleft c0 c3 c6
  subst hpv
  go_enter Try.func55, Try.ntmps55
  go_wp2_with fail
  go_quiet (fail)
  go_wp2_with fail
  go_loopw [3] (fun i wr => RelRC w0 g sv (.slice ap ps.length cp) sb ps d w i wr) (fun i _ => ps.length - (intOf i).toNat)
  case atStart =>
    exact ⟨0, by omega, rfl, HH.out.1.far (D := fun _ => False) ⟨rfl, rfl, rfl, Nat.le_refl _, fun _ _ _ => rfl⟩ (fun _ _ h => h), ⟨rfl, rfl, rfl, Nat.le_refl _, fun _ _ _ => rfl⟩⟩
  case round =>
    clear c1 c2 c4 c5 hle
    obtain ⟨k, hk, rfl, hrk, hkw⟩ := hrel
    by_cases hlt : k < ps.length
    · obtain ⟨x, hx⟩ : ∃ x, x = ps[k] := ⟨_, rfl⟩
      obtain ⟨qv, i, b⟩ := x
      have hilen := (hrk.pown ps[k] (List.getElem_mem hlt)).2.1
      rw [← hx] at hilen
      obtain ⟨q, s, kk, ap', asv, cp', cs, cc, hi, hpv', -, -, hap, hsv, hs1, hs2, hass, hqv, hc1, hc2, hbl, hcp, n1, n2, n3, n4⟩ := hrk.copyS_at hlt hx
      simp only [Value.slice.injEq] at hpv'
      obtain ⟨rfl, -, rfl⟩ := hpv'
      subst hap hass hqv hsv
      obtain ⟨at1, lv1, ar1, ⟨left1, hok1, hkl1⟩, -, -, d1, -, d3, -, -, -, -⟩ := hrk.cells
      have hle1 : left1 = d.left := ((hok1 HH.out.2.2.2.1).2 HH.out.2.2.2.2).2
      subst hle1
      obtain ⟨la, lc, hlv⟩ := hkl1.form
      subst hlv
      have hb1 : Below w0.heap.size w0 wr := HH.out.2.1.trans (hkw.below HH.out.2.2.1 HH.out.2.1.size)
      have hxp : d.p[k]? = some (i, b) := by
        have h1 := hrk.pok
        simp only at h1
        rw [h1, List.getElem?_map, List.getElem?_eq_getElem hlt, ← hx]
        rfl
      have hidl : i < d.s.length := by
        have : i < (iter (crashR d.left d.p) k d.s).length := hilen
        rwa [iter_length (crashR_length d.left d.p)] at this
      obtain ⟨sbi, hsbi⟩ : ∃ sbi, sbi = sb[i] := ⟨_, rfl⟩
      rw [← hsbi] at hcp n1 n2 n3 n4
      have HX := Lib.hid (And.intro hxp (And.intro hidl (And.intro hbl (And.intro hi (And.intro hrk (And.intro hkw hsbi))))))
      have hcpd := hcp.drew
      unfold copyS at hcpd
      have HS := Lib.hid hcpd
      have HG := Lib.hid (fun (W : World) (ds : List Value) (h : copyS g q s kk sbi k i (.slice (some ⟨s, 0, none⟩) sb.length cs) (.slice (some ⟨q, 0, none⟩) ps.length cp) (.slice (some ⟨kk, 0, none⟩) 16 cc) (Lib.byteCells b) W) => h.store n1 n2 n3 n4 ds)
      have HC := Lib.hid (fun (kp : Nat) (hkp : kp ≤ 16) (W : World) (h : copyS g q s kk sbi k i (.slice (some ⟨s, 0, none⟩) sb.length cs) (.slice (some ⟨q, 0, none⟩) ps.length cp) (.slice (some ⟨kk, 0, none⟩) 16 cc) (Lib.byteCells b) W) => show (∀ j v, (Lib.byteCells (b.take kp))[j]? = some v → W.cell? ((⟨kk, 0, none⟩ : Addr).add j) = some v) ∧ W.there sbi 0 (Lib.byteCells (b.take kp)).length from ⟨fun j v hv => by
        rw [Lib.add_plain]
        refine h.2.2.2.2.2.1 j v ?_
        have hj : j < (Lib.byteCells (b.take kp)).length := (List.getElem?_eq_some_iff.1 hv).1
        rw [bl, List.length_take] at hj
        simp only [Lib.byteCells, List.getElem?_map, List.getElem?_take] at hv ⊢
        rw [if_pos (by omega)] at hv
        exact hv, fun j hj => h.2.2.2.2.2.2 j (by rw [bl, List.length_take, hbl] at hj; omega)⟩)
      have HL := Lib.hid (fun (kp : Nat) (hkp : kp ≤ 16) => show (Lib.byteCells (b.take kp)).length = Nat.min kp 16 from by rw [bl, List.length_take, hbl])
      have HO := Lib.hid (fun (kp : Nat) => show ∀ v ∈ Lib.byteCells (b.take kp), v.oneCell' = true from oneCell_bytes _)
      have HN := Lib.hid (fun (kp : Nat) (hkp : kp = keepOf d.left k) => show RefM w0 (wr.drew.setCells sbi 0 (Lib.byteCells (b.take kp))) g (.slice (some ⟨s, 0, none⟩) sb.length cs) (.slice (some ⟨q, 0, none⟩) ps.length cp) sb ps { d with s := iter (crashR d.left d.p) (k + 1) d.s } ∧ Kept (fun k => k = g ∨ k ∈ sb) w (wr.drew.setCells sbi 0 (Lib.byteCells (b.take kp))) from by
        obtain ⟨hxp, hidl, hbl, hi, hrk, hkw, hsbi⟩ := HX.out
        have hrk' := hrk.far (D := fun _ => False) ((Kept.refl _ wr).drew) (fun _ _ h => h)
        have ht := hrk'.tear i hi b hbl (keepOf d.left k) (keepOf_le _ _) (s' := iter (crashR d.left d.p) (k + 1) d.s) (by rw [iter, crashR_length]) ((crash_next d k i b hxp hidl i).trans (if_pos rfl)) (fun j hj => (crash_next d k i b hxp hidl j).trans (if_neg hj))
        rw [hsbi, hkp]
        exact ⟨ht, hkw.drew.setCells (.inl (.inr (by exact List.getElem_mem hi))) _ _⟩)
      have i0 : (0 : Int) ≤ (i : Int) := by omega
      have i1 : (i : Int) < (sb.length : Int) := by omega
      have k1 : (k : Int) < (ps.length : Int) := by omega
      have cc1 : (16 : Int) ≤ (cc : Int) := by omega
      have cc2 : (cc : Int) ≤ 9223372036854775807 := by unfold maxLen at hc2; omega
      have cs2 : (cs : Int) ≤ 9223372036854775807 := by unfold maxLen at hs2; omega
      by_cases hkl : k < d.left.length
      · obtain ⟨lb, lo, lc', hlv', hcell, hlbl⟩ := hkl1.some_at k hkl
        simp only [Value.slice.injEq] at hlv'
        obtain ⟨rfl, -, rfl⟩ := hlv'
        have hcl : wr.cell? ⟨lb, lo + k, none⟩ = some (.int .i64 d.left[k]) := (hb1.cell (p := ⟨lb, lo + k, none⟩) hlbl).trans hcell
        have hkn := keep_num d.left k hkl
        obtain ⟨z, hz⟩ : ∃ z, z = d.left[k] := ⟨_, rfl⟩
        rw [← hz] at hcl hkn
        have kl1 : (k : Int) < (d.left.length : Int) := by omega
        obtain ⟨LL, hLL⟩ : ∃ LL, LL = d.left.length := ⟨_, rfl⟩
        rw [← hLL] at d3 kl1
        have main : z < 0 ∧ 0 = keepOf d.left k ∨ z = 0 ∧ 0 = keepOf d.left k ∨ 16 < z ∧ 16 = keepOf d.left k ∨ ∃ kp : Nat, z = (kp : Int) ∧ 0 < kp ∧ kp ≤ 16 ∧ kp = keepOf d.left k := by
          rcases (show z < 0 ∨ z = 0 ∨ (0 < z ∧ z ≤ 16) ∨ 16 < z by omega) with h1 | h1 | ⟨h1, h2⟩ | h1
          · exact .inl ⟨h1, by omega⟩
          · exact .inr (.inl ⟨h1, by omega⟩)
          · exact .inr (.inr (.inr ⟨z.toNat, by omega, by omega, by omega, by omega⟩))
          · exact .inr (.inr (.inl ⟨h1, by omega⟩))
        clear hx hilen hrk hcp n1 n2 n3 n4 hcpd hok1 hkl1 hb1 hxp hidl hsbi hkl hcell hlbl hkn hz hLL hc1 hc2 hs1 hs2 hbl hkw
        rcases main with ⟨z1, hkp⟩ | ⟨rfl, hkp⟩ | ⟨z1, hkp⟩ | ⟨kp, rfl, z1, z2, hkp⟩
        · have HKP := Lib.hid hkp
          clear hkp
          go_wp2_with fail
          have HC1 := Lib.hid (HC.out 0 (by omega))
          go_region_held3 (fun W => W.cell? ⟨g, 0, none⟩ = some (.slice (some ⟨s, 0, none⟩) sb.length cs) ∧ W.cell? ⟨g, 1, none⟩ = some (.slice (some ⟨q, 0, none⟩) ps.length cp) ∧ W.cell? ⟨q, k * 2, none⟩ = some (.int .i64 (i : Int)) ∧ W.cell? ⟨q, k * 2 + 1, none⟩ = some (.slice (some ⟨kk, 0, none⟩) 16 cc) ∧ W.cell? ⟨s, i, none⟩ = some (.slice (some ⟨sbi, 0, none⟩) 16 16) ∧ W.rangeAt kk 0 (Lib.byteCells b) ∧ W.there sbi 0 16) (first | assumption | exact HS.out | exact HG.out _ _ (by assumption))
            ((refine step_copy_cells (by rfl) (.tmp 63) (.tmp 73) 27 27 (by rfl) 5 Try.underlying27 sizeByte sbi 0 16 16 ⟨kk, 0, none⟩ 0 cc (by rfl) (by rfl) (Lib.byteCells (b.take 0)) (HL.out 0 (by omega)) (HC1.out _ (by assumption)).1 (HC1.out _ (by assumption)).2 (HO.out 0) ?_))
          have HF := Lib.hid (HN.out 0 HKP.out)
          go_wp2_with fail
          exact ⟨⟨k + 1, by omega, by go_num, HF.out.1, HF.out.2⟩, by simp [intOf]; omega⟩
        · have HKP := Lib.hid hkp
          clear hkp
          go_wp2_with fail
          have HC1 := Lib.hid (HC.out 0 (by omega))
          go_region_held3 (fun W => W.cell? ⟨g, 0, none⟩ = some (.slice (some ⟨s, 0, none⟩) sb.length cs) ∧ W.cell? ⟨g, 1, none⟩ = some (.slice (some ⟨q, 0, none⟩) ps.length cp) ∧ W.cell? ⟨q, k * 2, none⟩ = some (.int .i64 (i : Int)) ∧ W.cell? ⟨q, k * 2 + 1, none⟩ = some (.slice (some ⟨kk, 0, none⟩) 16 cc) ∧ W.cell? ⟨s, i, none⟩ = some (.slice (some ⟨sbi, 0, none⟩) 16 16) ∧ W.rangeAt kk 0 (Lib.byteCells b) ∧ W.there sbi 0 16) (first | assumption | exact HS.out | exact HG.out _ _ (by assumption))
            ((refine step_copy_cells (by rfl) (.tmp 63) (.tmp 73) 27 27 (by rfl) 5 Try.underlying27 sizeByte sbi 0 16 16 ⟨kk, 0, none⟩ 0 cc (by rfl) (by rfl) (Lib.byteCells (b.take 0)) (HL.out 0 (by omega)) (HC1.out _ (by assumption)).1 (HC1.out _ (by assumption)).2 (HO.out 0) ?_))
          have HF := Lib.hid (HN.out 0 HKP.out)
          go_wp2_with fail
          exact ⟨⟨k + 1, by omega, by go_num, HF.out.1, HF.out.2⟩, by simp [intOf]; omega⟩
        · have HKP := Lib.hid hkp
          clear hkp
          go_wp2_with fail
          have HC1 := Lib.hid (HC.out 16 (by omega))
          go_region_held3 (fun W => W.cell? ⟨g, 0, none⟩ = some (.slice (some ⟨s, 0, none⟩) sb.length cs) ∧ W.cell? ⟨g, 1, none⟩ = some (.slice (some ⟨q, 0, none⟩) ps.length cp) ∧ W.cell? ⟨q, k * 2, none⟩ = some (.int .i64 (i : Int)) ∧ W.cell? ⟨q, k * 2 + 1, none⟩ = some (.slice (some ⟨kk, 0, none⟩) 16 cc) ∧ W.cell? ⟨s, i, none⟩ = some (.slice (some ⟨sbi, 0, none⟩) 16 16) ∧ W.rangeAt kk 0 (Lib.byteCells b) ∧ W.there sbi 0 16) (first | assumption | exact HS.out | exact HG.out _ _ (by assumption))
            ((refine step_copy_cells (by rfl) (.tmp 63) (.tmp 73) 27 27 (by rfl) 5 Try.underlying27 sizeByte sbi 0 16 16 ⟨kk, 0, none⟩ 16 cc (by rfl) (by rfl) (Lib.byteCells (b.take 16)) (HL.out 16 (by omega)) (HC1.out _ (by assumption)).1 (HC1.out _ (by assumption)).2 (HO.out 16) ?_))
          have HF := Lib.hid (HN.out 16 HKP.out)
          go_wp2_with fail
          exact ⟨⟨k + 1, by omega, by go_num, HF.out.1, HF.out.2⟩, by simp [intOf]; omega⟩
        · have HKP := Lib.hid hkp
          clear hkp
          go_wp2_with fail
          have kp0 : (0 : Int) ≤ (kp : Int) := by omega
          have kpc : (kp : Int) ≤ (cc : Int) := by omega
          have HC1 := Lib.hid (HC.out kp (by omega))
          go_region_held3 (fun W => W.cell? ⟨g, 0, none⟩ = some (.slice (some ⟨s, 0, none⟩) sb.length cs) ∧ W.cell? ⟨g, 1, none⟩ = some (.slice (some ⟨q, 0, none⟩) ps.length cp) ∧ W.cell? ⟨q, k * 2, none⟩ = some (.int .i64 (i : Int)) ∧ W.cell? ⟨q, k * 2 + 1, none⟩ = some (.slice (some ⟨kk, 0, none⟩) 16 cc) ∧ W.cell? ⟨s, i, none⟩ = some (.slice (some ⟨sbi, 0, none⟩) 16 16) ∧ W.rangeAt kk 0 (Lib.byteCells b) ∧ W.there sbi 0 16) (first | assumption | exact HS.out | exact HG.out _ _ (by assumption))
            ((refine step_copy_cells (by rfl) (.tmp 63) (.tmp 73) 27 27 (by rfl) 5 Try.underlying27 sizeByte sbi 0 16 16 ⟨kk, 0, none⟩ kp cc (by rfl) (by rfl) (Lib.byteCells (b.take kp)) (HL.out kp (by omega)) (HC1.out _ (by assumption)).1 (HC1.out _ (by assumption)).2 (HO.out kp) ?_))
          have HF := Lib.hid (HN.out kp HKP.out)
          go_wp2_with fail
          exact ⟨⟨k + 1, by omega, by go_num, HF.out.1, HF.out.2⟩, by simp [intOf]; omega⟩
      · have kl1 : (d.left.length : Int) ≤ (k : Int) := by omega
        have hkp : 0 = keepOf d.left k := (keep_none d.left k (by omega)).symm
        obtain ⟨LL, hLL⟩ : ∃ LL, LL = d.left.length := ⟨_, rfl⟩
        rw [← hLL] at d3 kl1
        clear hx hilen hrk hcp n1 n2 n3 n4 hcpd hok1 hkl1 hb1 hxp hidl hsbi hkl hLL hc1 hc2 hs1 hs2 hbl hkw
        have HKP := Lib.hid hkp
        clear hkp
        go_wp2_with fail
        have HC1 := Lib.hid (HC.out 0 (by omega))
        go_region_held3 (fun W => W.cell? ⟨g, 0, none⟩ = some (.slice (some ⟨s, 0, none⟩) sb.length cs) ∧ W.cell? ⟨g, 1, none⟩ = some (.slice (some ⟨q, 0, none⟩) ps.length cp) ∧ W.cell? ⟨q, k * 2, none⟩ = some (.int .i64 (i : Int)) ∧ W.cell? ⟨q, k * 2 + 1, none⟩ = some (.slice (some ⟨kk, 0, none⟩) 16 cc) ∧ W.cell? ⟨s, i, none⟩ = some (.slice (some ⟨sbi, 0, none⟩) 16 16) ∧ W.rangeAt kk 0 (Lib.byteCells b) ∧ W.there sbi 0 16) (first | assumption | exact HS.out | exact HG.out _ _ (by assumption))
          ((refine step_copy_cells (by rfl) (.tmp 63) (.tmp 73) 27 27 (by rfl) 5 Try.underlying27 sizeByte sbi 0 16 16 ⟨kk, 0, none⟩ 0 cc (by rfl) (by rfl) (Lib.byteCells (b.take 0)) (HL.out 0 (by omega)) (HC1.out _ (by assumption)).1 (HC1.out _ (by assumption)).2 (HO.out 0) ?_))
        have HF := Lib.hid (HN.out 0 HKP.out)
        go_wp2_with fail
        exact ⟨⟨k + 1, by omega, by go_num, HF.out.1, HF.out.2⟩, by simp [intOf]; omega⟩
    · obtain rfl : k = ps.length := by omega
      have hpl : d.p.length = ps.length := by
        have := hrk.pok
        simp only at this
        rw [this, List.length_map]
      obtain ⟨at1, lv1, ar1, ⟨left1, hok1, hkl1⟩, hh1, -, d1, -, -, -, -, d6, df⟩ := hrk.cells
      have f1 := df 1
      have f6 := df 6
      have HF := Lib.hid (And.intro hrk (And.intro hkw (And.intro hh1 (And.intro hkl1 hpl))))
      clear hrk hkw hh1 hkl1 hok1 df hlt hk
      go_wp2_with fail
      go_ret
      obtain ⟨hrk, hkw, hh1, hkl1, hpl⟩ := HF.out
      refine ⟨rfl, ?_, (hkw.setCell (.inl (.inl rfl)) _).setCell (.inl (.inl rfl)) _⟩
      rw [← hpl] at hrk
      refine hrk.redrop (fun j hj => ?_) (by simp [World.setCell]) (fun j hj => ?_) ?_ rfl ⟨at1, lv1, ar1, ?_, left1, (fun h => by cases h), hkl1⟩
      · rw [heap_setCell_ne _ _ _ _ hj, heap_setCell_ne _ _ _ _ hj]
      · exact dropped_fl d.torn j hj
      · exact dropped_len d.torn
      · rw [heap_set (heap_set hh1 _ _) _ _]
        rfl
end
end Go.Proofs.Ytffjdpkgcgdfdaa
