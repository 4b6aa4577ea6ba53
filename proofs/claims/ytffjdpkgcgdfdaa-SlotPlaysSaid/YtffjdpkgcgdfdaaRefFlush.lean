/-
  Proved: the statements' own disk: Flush: what is pending is on the disk, in order; or the disk crashes; or it is down already. Conditions: the disk lies in memory; what was handed in could be read at the beginning.
-/
import Derived.Test.YtffjdpkgcgdfdaaRefCrash
namespace Go.Proofs.Ytffjdpkgcgdfdaa
open Go Go.RowKit DiskMath NetMem SpanMath

section
variable {w0 w wr : World} {g : Nat} {sv pv : Value} {sb : List Nat} {ps : Pend} {d : Dk}

theorem flush_next (d : Dk) (k i : Nat) (b : List UInt8) (hx : d.p[k]? = some (i, b)) (hi : i < d.s.length) (j : Nat) :
    fl { d with s := iter (flushR d.p) (k + 1) d.s } j = if j = i then b else fl { d with s := iter (flushR d.p) k d.s } j := by
  obtain ⟨L, hL⟩ : ∃ L, L = iter (flushR d.p) k d.s := ⟨_, rfl⟩
  have hl : L.length = d.s.length := by rw [hL]; exact iter_length (flushR_length d.p) _ _
  show (((flushR d.p k (iter (flushR d.p) k d.s))[j]?).getD ([], [])).1 = if j = i then b else (((iter (flushR d.p) k d.s)[j]?).getD ([], [])).1
  rw [← hL]
  unfold flushR
  rw [hx]
  simp only
  by_cases e : j = i
  · subst e
    rw [if_pos rfl, fl_modify _ _ _ _ (by omega), if_pos rfl]
  · rw [if_neg e, mod_at (Ne.symm e)]
def RelRF (w0 : World) (g : Nat) (sv pv : Value) (sb : List Nat) (ps : Pend) (d : Dk) (w : World) (i : Value) (wr : World) : Prop :=
  ∃ k : Nat, k ≤ ps.length ∧ i = .int .i64 (k : Int) ∧ RefM w0 wr g sv pv sb ps { d with s := iter (flushR d.p) k d.s } ∧ Kept (fun k => k = g ∨ k ∈ sb) w wr

theorem rflush_down (h : RefM w0 w g sv pv sb ps d) (hd : d.down = true) :
    Calls Try.prog 40 #[.pointer (some ⟨g, 0, none⟩)] w fun e w' => e = .returned (.int .i64 5) ∧ w = w' := by
  obtain ⟨at_, lv, ar, -, -, -, -, -, -, -, -, c6, -⟩ := h.cells
  rw [hd] at c6
  clear h hd
  go_enter Try.func40, Try.ntmps40
  go_wp2_with fail
  go_ret
  exact ⟨rfl, rfl⟩

theorem rflush_hit (h : RefM w0 w g sv pv sb ps d) (hd : d.down = false) (hh : d.hits = true) (hb0 : Below w0.heap.size w0 w) (hge : ∀ k, (k = g ∨ k ∈ sb) → w0.heap.size ≤ k) :
    Calls Try.prog 40 #[.pointer (some ⟨g, 0, none⟩)] w fun e w' => e = .returned (.int .i64 5) ∧ RefM w0 w' g sv (.slice none 0 0) sb [] d.crashed ∧ Kept (fun k => k = g ∨ k ∈ sb) w w' := by
  obtain ⟨at_, lv, ar, -, -, -, -, -, -, -, -, c6, -⟩ := h.cells
  have HC := Lib.hid (rcrash_hit h hd hh hb0 hge)
  rw [hd] at c6
  clear h hd hh hb0 hge
  go_enter Try.func40, Try.ntmps40
  go_wp2_with fail
  refine HC.out.mono ?_
  rintro e w1 ⟨rfl, h1, h2⟩
  have H1 := Lib.hid (And.intro h1 h2)
  clear h1 h2
  go_wp2_with fail
  go_ret
  exact ⟨rfl, H1.out.1, H1.out.2⟩

set_option maxHeartbeats 8000000 in
set_option maxRecDepth 100000 in
theorem rflush_go (h : RefM w0 w g sv pv sb ps d) (hd : d.down = false) (hh : d.hits = false) (hn : d.n < 4611686018427387904) :
    Calls Try.prog 40 #[.pointer (some ⟨g, 0, none⟩)] w fun e w' => e = .returned (.int .i64 0) ∧ RefM w0 w' g sv (.slice none 0 0) sb [] d.flushed ∧ Kept (fun k => k = g ∨ k ∈ sb) w w' := by
  obtain ⟨at_, lv, ar, -, -, -, -, -, -, -, -, c6, -⟩ := h.cells
  have HCR := Lib.hid (rcrash_not h hd hh)
  rw [hd] at c6
  obtain ⟨ap, cp, hpv, hp1, hp2, -⟩ := h.pv_at
  unfold maxLen at hp2
  subst hpv
  have HH := Lib.hid h
  have hn1 : (d.n : Int) < 4611686018427387904 := by omega
  clear h hd hh hn
  go_enter Try.func40, Try.ntmps40
  go_wp2_with fail
  refine HCR.out.mono ?_
  rintro e w1 ⟨rfl, hk0⟩
  have HD0 := Lib.hid (HH.out.far hk0 fun _ _ h => h)
  have HK0 := Lib.hid (show Kept (fun k => k = g ∨ k ∈ sb) w w1 from hk0.mono fun _ _ h => h.elim)
  clear hk0
  go_wp2_with fail
  go_loopw [3] (fun i wr => RelRF w0 g sv (.slice ap ps.length cp) sb ps d w i wr) (fun i _ => ps.length - (intOf i).toNat)
  case atStart => exact ⟨0, by omega, rfl, HD0.out, HK0.out⟩
  case round =>
    clear c6
    obtain ⟨k, hk, rfl, hrk, hkw⟩ := hrel
    by_cases hlt : k < ps.length
    · obtain ⟨x, hx⟩ : ∃ x, x = ps[k] := ⟨_, rfl⟩
      obtain ⟨qv, i, b⟩ := x
      have hilen := (hrk.pown ps[k] (List.getElem_mem hlt)).2.1
      rw [← hx] at hilen
      obtain ⟨q, s, kk, ap', asv, cp', cs, cc, hi, hpv', -, -, hap, hsv, hs1, hs2, hass, hqv, hc1, hc2, hbl, hcp, n1, n2, n3, n4⟩ := hrk.copyS_at hlt hx
      simp only [Value.slice.injEq] at hpv'
      obtain ⟨rfl, -, rfl⟩ := hpv'
      subst hap hass hqv hsv
      obtain ⟨at1, lv1, ar1, -, -, -, d1, -, -, -, -, -, -⟩ := hrk.cells
      have hxp : d.p[k]? = some (i, b) := by
        have h1 := hrk.pok
        simp only at h1
        rw [h1, List.getElem?_map, List.getElem?_eq_getElem hlt, ← hx]
        rfl
      have hidl : i < d.s.length := by
        have : i < (iter (flushR d.p) k d.s).length := hilen
        rwa [iter_length (flushR_length d.p)] at this
      obtain ⟨sbi, hsbi⟩ : ∃ sbi, sbi = sb[i] := ⟨_, rfl⟩
      rw [← hsbi] at hcp n1 n2 n3 n4
      have HX := Lib.hid (And.intro hxp (And.intro hidl (And.intro hbl (And.intro hi (And.intro hrk (And.intro hkw hsbi))))))
      have hcpd := hcp.drew
      unfold copyS at hcpd
      have HS := Lib.hid hcpd
      have HG := Lib.hid (fun (W : World) (ds : List Value) (h : copyS g q s kk sbi k i (.slice (some ⟨s, 0, none⟩) sb.length cs) (.slice (some ⟨q, 0, none⟩) ps.length cp) (.slice (some ⟨kk, 0, none⟩) 16 cc) (Lib.byteCells b) W) => h.store n1 n2 n3 n4 ds)
      have HC := Lib.hid (fun (W : World) (h : copyS g q s kk sbi k i (.slice (some ⟨s, 0, none⟩) sb.length cs) (.slice (some ⟨q, 0, none⟩) ps.length cp) (.slice (some ⟨kk, 0, none⟩) 16 cc) (Lib.byteCells b) W) => show (∀ j v, (Lib.byteCells b)[j]? = some v → W.cell? ((⟨kk, 0, none⟩ : Addr).add j) = some v) ∧ W.there sbi 0 (Lib.byteCells b).length from ⟨fun j v hv => by
        rw [Lib.add_plain]
        exact h.2.2.2.2.2.1 j v hv, fun j hj => h.2.2.2.2.2.2 j (by rw [bl, hbl] at hj; omega)⟩)
      have HL := Lib.hid (show (Lib.byteCells b).length = Nat.min 16 16 from by rw [bl, hbl]; rfl)
      have HO := Lib.hid (show ∀ v ∈ Lib.byteCells b, v.oneCell' = true from oneCell_bytes _)
      have HN := Lib.hid (show RefM w0 (wr.drew.setCells sbi 0 (Lib.byteCells b)) g (.slice (some ⟨s, 0, none⟩) sb.length cs) (.slice (some ⟨q, 0, none⟩) ps.length cp) sb ps { d with s := iter (flushR d.p) (k + 1) d.s } ∧ Kept (fun k => k = g ∨ k ∈ sb) w (wr.drew.setCells sbi 0 (Lib.byteCells b)) from by
        obtain ⟨hxp, hidl, hbl, hi, hrk, hkw, hsbi⟩ := HX.out
        have hrk' := hrk.far (D := fun _ => False) ((Kept.refl _ wr).drew) (fun _ _ h => h)
        have hb16 : b.take 16 = b := List.take_of_length_le (by omega)
        have hfl := (hrk'.sec i hi).2.2
        have ht := hrk'.tear i hi b hbl 16 (Nat.le_refl _) (s' := iter (flushR d.p) (k + 1) d.s) (by rw [iter, flushR_length]) ((flush_next d k i b hxp hidl i).trans (by rw [if_pos rfl, hb16, List.drop_of_length_le (by omega), List.append_nil])) (fun j hj => (flush_next d k i b hxp hidl j).trans (if_neg hj))
        rw [hb16] at ht
        rw [hsbi]
        exact ⟨ht, hkw.drew.setCells (.inl (.inr (by exact List.getElem_mem hi))) _ _⟩)
      have i0 : (0 : Int) ≤ (i : Int) := by omega
      have i1 : (i : Int) < (sb.length : Int) := by omega
      have k1 : (k : Int) < (ps.length : Int) := by omega
      have cs2 : (cs : Int) ≤ 9223372036854775807 := by unfold maxLen at hs2; omega
      clear hx hilen hrk hcp n1 n2 n3 n4 hcpd hxp hidl hsbi hc1 hc2 hs1 hs2 hbl hkw
      go_wp2_with fail
      go_region_held3 (fun W => W.cell? ⟨g, 0, none⟩ = some (.slice (some ⟨s, 0, none⟩) sb.length cs) ∧ W.cell? ⟨g, 1, none⟩ = some (.slice (some ⟨q, 0, none⟩) ps.length cp) ∧ W.cell? ⟨q, k * 2, none⟩ = some (.int .i64 (i : Int)) ∧ W.cell? ⟨q, k * 2 + 1, none⟩ = some (.slice (some ⟨kk, 0, none⟩) 16 cc) ∧ W.cell? ⟨s, i, none⟩ = some (.slice (some ⟨sbi, 0, none⟩) 16 16) ∧ W.rangeAt kk 0 (Lib.byteCells b) ∧ W.there sbi 0 16) (first | assumption | exact HS.out | exact HG.out _ _ (by assumption))
        ((refine step_copy_cells (by rfl) (.tmp 34) (.tmp 42) 27 27 (by rfl) 5 Try.underlying27 sizeByte sbi 0 16 16 ⟨kk, 0, none⟩ 16 cc (by rfl) (by rfl) (Lib.byteCells b) HL.out (HC.out _ (by assumption)).1 (HC.out _ (by assumption)).2 HO.out ?_))
      have HF := Lib.hid HN.out
      go_wp2_with fail
      exact ⟨⟨k + 1, by omega, by go_num, HF.out.1, HF.out.2⟩, by simp [intOf]; omega⟩
    · obtain rfl : k = ps.length := by omega
      have hpl : d.p.length = ps.length := by
        have := hrk.pok
        simp only at this
        rw [this, List.length_map]
      obtain ⟨at1, lv1, ar1, hok1, hh1, -, d1, -, -, d4, -, -, df⟩ := hrk.cells
      simp only at d4
      have f1 := df 1
      have f4 := df 4
      have HF := Lib.hid (And.intro hrk (And.intro hkw (And.intro hh1 (And.intro hok1 hpl))))
      clear hrk hkw hh1 hok1 df hlt hk
      go_wp2_with fail
      go_ret
      obtain ⟨hrk, hkw, hh1, hok1, hpl⟩ := HF.out
      refine ⟨rfl, ?_, (hkw.setCell (.inl (.inl rfl)) _).setCell (.inl (.inl rfl)) _⟩
      rw [← hpl] at hrk
      refine hrk.redrop (fun j hj => ?_) (by simp [World.setCell]) (fun j hj => rfl) rfl rfl ⟨at1, lv1, ar1, ?_, hok1⟩
      · rw [heap_setCell_ne _ _ _ _ hj, heap_setCell_ne _ _ _ _ hj]
      · rw [heap_set (heap_set hh1 _ _) _ _]
        rfl
end
end Go.Proofs.Ytffjdpkgcgdfdaa
