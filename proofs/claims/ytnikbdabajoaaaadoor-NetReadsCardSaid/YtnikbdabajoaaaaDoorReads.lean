/-
  Proved: the walk of the law NetReads: of any bytes, by every script, net's Reader takes what the document says, and as much is left; so it answers true and changes nothing that was there. Conditions: the arguments can be read; the library's table and its two sentinel errors read as laid.
-/
import Derived.Test.YtnikbdabajoaaaaDoorRText
import Derived.LoopTactic
namespace Go.Proofs.YtnikbdabajoaaaaDoor
open Go Go.Shelf Go.RowKit NetMath NetMem

/-- A script's steps that can be read. -/
def Acts (w : World) (p : Option Addr) (acts : List Bool) : Prop := ∀ i (h : i < acts.length), ∃ b o, p = some ⟨b, o, none⟩ ∧ w.cell? ⟨b, o + i, none⟩ = some (.bool acts[i])

/-- The two Readers side by side. -/
def RelR (w : World) (na : Nat) (r x : Nat) (i : Value) (wr : World) : Prop :=
  ∃ (k : Nat) (ll : List UInt8), k ≤ na ∧ i = .int .i64 k ∧ ll.length ≤ 200 ∧ Rd 48 wr r ll ∧ Rd 37 wr x ll ∧ Below w.heap.size w wr

theorem numRest_le (l : List UInt8) : (numRest l).length ≤ l.length := by
  unfold numRest
  cases firstN l with
  | none => exact Nat.le_refl _
  | some x => simp
theorem textRest_le (l : List UInt8) : (textRest l).length ≤ l.length := by
  unfold textRest textOf
  cases firstN l with
  | none => exact Nat.le_refl _
  | some x =>
    obtain ⟨n, k⟩ := x
    simp only
    split
    · rename_i h
      split at h
      · cases h
      · simp only [Option.some.injEq, Prod.mk.injEq] at h
        rw [← h.2]
        simp
    · exact Nat.le_refl _

theorem left_q (r : Nat) (l : List UInt8) (w : World) (h : Rd 48 w r l) :
    Calls Tryd.prog 15 #[.pointer (some ⟨r, 0, none⟩)] w fun e w' => e = .returned (.int .i64 l.length) ∧ w' = w :=
  (left_any r l w h).mono fun _ _ ⟨he, hw⟩ => ⟨he, hw.symm⟩

theorem reads_long (p : Option Addr) (n c : Nat) (pa : Option Addr) (na ca : Nat) (w : World) (h : 200 < n ∨ 50 < na) :
    Calls Tryd.prog 4 #[.slice p n c, .slice pa na ca] w fun e w' => e = .returned (.bool true) ∧ Below w.heap.size w w' := by
  by_cases h1 : 200 < n
  · clear h
    go_enter Tryd.func4, Tryd.ntmps4
    go_wp2_with fail
    go_ret
    exact ⟨rfl, Below.refl _ _⟩
  · have h2 : 50 < na := by omega
    clear h
    go_enter Tryd.func4, Tryd.ntmps4
    go_wp2_with fail
    go_ret
    exact ⟨rfl, Below.refl _ _⟩

set_option maxHeartbeats 8000000 in
set_option maxRecDepth 100000 in
theorem reads_in (p : Option Addr) (c : Nat) (l : List UInt8) (pa : Option Addr) (ca : Nat) (acts : List Bool) (w : World) (hrow : Row w (.slice p l.length c) l) (hacts : Acts w pa acts) (h200 : ¬ 200 < l.length) (h50 : ¬ 50 < acts.length) (hg : Glob w) :
    Calls Tryd.prog 4 #[.slice p l.length c, .slice pa acts.length ca] w fun e w' => e = .returned (.bool true) ∧ Below w.heap.size w w' := by
  obtain ⟨i0, hi, hz0, hz1, hz2⟩ := info_parts info5
  have HG := Lib.hid hg
  have HA := Lib.hid hacts
  have hb1 : Below w.heap.size w (w.alloc (.cells #[] 5)) := (Below.refl _ _).alloc (Nat.le_refl _) _
  have ho1 : Own (w.alloc (.cells #[] 5)) w.heap.size (.slice (some ⟨w.heap.size, 0, none⟩) 0 0) [] :=
    Own.made w 5 [] 0 (Nat.le_refl _) (by unfold maxLen; omega) #[] rfl (fun j h => by simp at h) _ (Nat.le_refl _)
  have hrow1 := Row.below hrow hb1
  have hsrc := Row.src (P := Tryd.prog) hrow1 Tryd.underlying22
  have HROW := Lib.hid hrow
  have HB1 := Lib.hid hb1
  have HO1 := Lib.hid ho1
  have HSRC := Lib.hid hsrc
  clear hg hacts hb1 ho1 hrow1 hsrc hrow
  go_enter Tryd.func4, Tryd.ntmps4
  go_wp2_with (at_builtin; refine wpList_append_bytes _ rfl _ _ 22 22 rfl 5 i0 Tryd.underlying22 hi hz0 hz1 hz2 w.heap.size _ _ rfl HO1.out _ l rfl HSRC.out ?lim ?hB ?_)
  case lim => simp; omega
  case hB => simp
  intro v2 w2 ho2 hg2 _
  have HB2 := Lib.hid (HB1.out.grown hg2 (by simp) (fun k hk => (HO1.out.lt k hk).1))
  have HR2 := Lib.hid ho2.row
  clear ho2 hg2 HO1 HSRC
  go_wp2_with fail
  refine (new_any _ l (by omega) w2 HR2.out).mono ?_
  rintro e w3 ⟨r, rfl, hr0, hr1, hrd, hb3⟩
  have hr : w.heap.size ≤ r := Nat.le_trans HB2.out.size hr0
  have HB3 := Lib.hid (HB2.out.trans (hb3.mono HB2.out.size))
  have HRD3 := Lib.hid hrd
  have hb4 : Below w3.heap.size w3 (w3.alloc (.cells #[.slice p l.length c] 37)) := (Below.refl _ _).alloc (Nat.le_refl _) _
  have HB4 := Lib.hid (HB3.out.trans (hb4.mono HB3.out.size))
  have HRD4 := Lib.hid (HRD3.out.below hb4)
  have HXD4 := Lib.hid (show Rd 37 (w3.alloc (.cells #[.slice p l.length c] 37)) w3.heap.size l from ⟨_, heap_alloc_new w3 _, Row.below (Row.below HROW.out HB3.out) hb4⟩)
  have HNE := Lib.hid (show r ≠ w3.heap.size by omega)
  have HX := Lib.hid (show w.heap.size ≤ w3.heap.size from HB3.out.size)
  clear hr0 hr1 hrd hb3 hb4 HRD3 HB2 HR2 HB1
  go_wp2_with fail
  go_loopw [7] (fun i wr => RelR w acts.length r w3.heap.size i wr) (fun i _ => acts.length - (intOf i).toNat)
  case atStart => exact ⟨0, l, Nat.zero_le _, rfl, by omega, HRD4.out, HXD4.out, HB4.out⟩
  case round =>
    obtain ⟨k, ll, hk, rfl, hll, hrd, hxd, hb⟩ := hrel
    by_cases hlt : k < acts.length
    · obtain ⟨ba, oa, hpa, hact⟩ := HA.out k hlt
      subst hpa
      have hck : wr.cell? ⟨ba, oa + k, none⟩ = some (.bool acts[k]) := by rw [hb.cell (p := ⟨ba, oa + k, none⟩) (lt_of_cell hact)]; exact hact
      have hltI : (k : Int) < (acts.length : Int) := by omega
      have HRD := Lib.hid hrd
      have HXD := Lib.hid hxd
      have HB := Lib.hid hb
      clear hrd hxd hb hact
      obtain ⟨S, hS⟩ : ∃ S : ByteArray, (⟨(textV ll).toArray⟩ : ByteArray) = S := ⟨_, rfl⟩
      obtain ⟨T, hT⟩ : ∃ T : Bool, textOk ll = T := ⟨_, rfl⟩
      obtain ⟨S2, hS2⟩ : ∃ S2 : Int, numV ll = S2 := ⟨_, rfl⟩
      obtain ⟨T2, hT2⟩ : ∃ T2 : Bool, numOk ll = T2 := ⟨_, rfl⟩
      have HST := Lib.hid (And.intro hS hT)
      have HSN := Lib.hid (And.intro hS2 hT2)
      clear hS hT hS2 hT2
      cases ha : acts[k]
      · rw [ha] at hck
        clear ha
        go_wp2_with fail
        refine (rnum_any r ll (by omega) _ HRD.out (HG.out.below HB.out)).mono ?_
        rintro e w5 ⟨rfl, hrd5, hk5⟩
        rw [HSN.out.1, HSN.out.2]
        have HB5 := Lib.hid (HB.out.trans (hk5.below HB.out.size hr))
        have HXD5 := Lib.hid (HXD.out.kept HRD.out HNE.out.symm hk5)
        have HRD5 := Lib.hid hrd5
        clear hrd5 hk5
        go_wp2_with fail
        refine (refr_any w3.heap.size ll (by omega) _ HXD5.out).mono ?_
        rintro e w6 ⟨rfl, hxd6, hk6⟩
        rw [HSN.out.1, HSN.out.2]
        have HB6 := Lib.hid (HB5.out.trans (hk6.below HB5.out.size HX.out))
        have HRD6 := Lib.hid (HRD5.out.kept HXD5.out HNE.out hk6)
        have HXD6 := Lib.hid hxd6
        clear hxd6 hk6 HRD5 HXD5 HB5
        obtain ⟨vx, hxr, hxv⟩ := id HXD6.out
        obtain ⟨px, cx, hvx, -⟩ := id hxv
        subst hvx
        obtain ⟨hcx, -, -⟩ := Rd.cell hxr
        clear hxr hxv
        have HLF := Lib.hid (fun nq : Nat => left_q r (numRest ll) (w6.drewN nq) (HRD6.out.below (below_drewN _ _ nq)))
        go_wp2_with fail
        go_quiet ((go_at_call 15; exact Calls.quiet_of_same (HLF.out _)))
        go_wp2_with fail
        go_roundw
        case rel => exact ⟨k + 1, numRest ll, by omega, by go_num, Nat.le_trans (numRest_le ll) hll, HRD6.out, HXD6.out, HB6.out.trans (below_drewN _ _ _)⟩
        case measure => simp [intOf]; omega
      · rw [ha] at hck
        clear ha
        go_wp2_with fail
        refine (rtext_any r ll (by omega) _ HRD.out (HG.out.below HB.out)).mono ?_
        rintro e w5 ⟨rfl, hrd5, hk5⟩
        rw [HST.out.1, HST.out.2]
        have HB5 := Lib.hid (HB.out.trans (hk5.below HB.out.size hr))
        have HXD5 := Lib.hid (HXD.out.kept HRD.out HNE.out.symm hk5)
        have HRD5 := Lib.hid hrd5
        clear hrd5 hk5
        go_wp2_with fail
        refine (reft_any w3.heap.size ll (by omega) _ HXD5.out).mono ?_
        rintro e w6 ⟨rfl, hxd6, hk6⟩
        rw [HST.out.1, HST.out.2]
        have HB6 := Lib.hid (HB5.out.trans (hk6.below HB5.out.size HX.out))
        have HRD6 := Lib.hid (HRD5.out.kept HXD5.out HNE.out hk6)
        have HXD6 := Lib.hid hxd6
        clear hxd6 hk6 HRD5 HXD5 HB5
        obtain ⟨vx, hxr, hxv⟩ := id HXD6.out
        obtain ⟨px, cx, hvx, -⟩ := id hxv
        subst hvx
        obtain ⟨hcx, -, -⟩ := Rd.cell hxr
        clear hxr hxv
        have HLF := Lib.hid (fun nq : Nat => left_q r (textRest ll) (w6.drewN nq) (HRD6.out.below (below_drewN _ _ nq)))
        go_wp2_with fail
        go_quiet ((go_at_call 15; exact Calls.quiet_of_same (HLF.out _)))
        go_wp2_with fail
        go_roundw
        case rel => exact ⟨k + 1, textRest ll, by omega, by go_num, Nat.le_trans (textRest_le ll) hll, HRD6.out, HXD6.out, HB6.out.trans (below_drewN _ _ _)⟩
        case measure => simp [intOf]; omega
    · obtain rfl : k = acts.length := by omega
      have HB := Lib.hid hb
      clear hrd hxd hb
      go_wp2_with fail
      refine (known_any _ (HG.out.below HB.out)).mono ?_
      rintro e w5 ⟨rfl, hb5⟩
      have HB5 := Lib.hid (HB.out.trans (hb5.mono HB.out.size))
      clear hb5
      go_wp2_with fail
      go_ret
      exact ⟨rfl, HB5.out⟩

/-- THE LAW's WALK. -/
theorem reads_law (p : Option Addr) (c : Nat) (l : List UInt8) (pa : Option Addr) (ca : Nat) (acts : List Bool) (w : World) (hrow : Row w (.slice p l.length c) l) (hacts : Acts w pa acts) (hg : Glob w) :
    Calls Tryd.prog 4 #[.slice p l.length c, .slice pa acts.length ca] w fun e w' => e = .returned (.bool true) ∧ Below w.heap.size w w' := by
  by_cases h : 200 < l.length ∨ 50 < acts.length
  · exact reads_long p l.length c pa acts.length ca w h
  · exact reads_in p c l pa ca acts w hrow hacts (by omega) (by omega) hg
end Go.Proofs.YtnikbdabajoaaaaDoor
