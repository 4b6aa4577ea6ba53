/-
  Proved: contracts of tree's Plain, bare, gives. Conditions: texts of at most 2^20 bytes.
-/
import Derived.Test.YtloaalapkmbgeaaDoorTreeWord
namespace Go.Proofs.YtloaalapkmbgeaaDoor
open Go Go.RowKit GlyphMath LexMath TreeMath

set_option maxRecDepth 100000 in
theorem plain_any (ps : List Pt) (v : Value) (w : World) (hv : PsAt w v ps) :
    Calls Tryd.prog 18 #[wordV v] w fun e w' => e = .returned (.tuple #[.string (T ((plainT ps).getD [])), .bool (plainT ps).isSome]) ∧ Below w.heap.size w w' := by
  have HB := Lib.hid (fun o => below_one w o)
  unfold wordV
  by_cases h1 : ∃ q, ps = [q]
  · obtain ⟨q, rfl⟩ := h1
    obtain ⟨b, o, c, u, rfl, ⟨up, uc, rfl⟩, c0, c1, c2, c3, c4⟩ := first_cells hv
    have HI := Lib.hid (fun W => isBare_any q (.slice up q.word.length uc) W)
    obtain ⟨s, hs⟩ : ∃ s, T q.text = s := ⟨_, rfl⟩
    obtain ⟨s2, hs2⟩ : ∃ s, T q.op = s := ⟨_, rfl⟩
    obtain ⟨kd, hkd⟩ : ∃ s, q.kind = s := ⟨_, rfl⟩
    obtain ⟨qq, hqq⟩ : ∃ s, q.q = s := ⟨_, rfl⟩
    obtain ⟨ul, hul⟩ : ∃ s, q.word.length = s := ⟨_, rfl⟩
    have HI := Lib.hid (show ∀ W, Calls Tryd.prog 34 #[.agg #[.int .i64 kd, .string s, .string s2, .slice up ul uc, .bool qq]] W fun e w' => e = .returned (.bool (bareT q)) ∧ Below W.heap.size W w' from fun W => by rw [← hs, ← hs2, ← hkd, ← hqq, ← hul]; exact HI.out W)
    rw [hs] at c1
    rw [hs2] at c2
    rw [hkd] at c0
    rw [hqq] at c4
    rw [hul] at c3
    obtain ⟨B, hBB⟩ : ∃ B, bareT q = B := ⟨_, rfl⟩
    rw [hBB] at HI
    have HT := Lib.hid (show T ((plainT [q]).getD []) = (if B = true then s else ⟨#[]⟩) ∧ (plainT [q]).isSome = B from by
      rw [← hBB, ← hs]
      show T ((if bareT q = true then some q.text else none).getD []) = _ ∧ (if bareT q = true then some q.text else none).isSome = _
      cases bareT q <;> exact ⟨rfl, rfl⟩)
    rw [HT.out.1, HT.out.2]
    have d0 := fun x => cell_below c0 (HB.out x)
    have d1 := fun x => cell_below c1 (HB.out x)
    have d2 := fun x => cell_below c2 (HB.out x)
    have d3 := fun x => cell_below c3 (HB.out x)
    have d4 := fun x => cell_below c4 (HB.out x)
    clear hv hs hs2 hkd hqq hul hBB
    show Calls _ _ #[.agg #[.slice (some ⟨b, o, none⟩) 1 c]] _ _
    cases B with
    | true =>
      go_enter Tryd.func18, Tryd.ntmps18
      go_wp2_with (go_at_call 34; refine (HI.out _).mono ?_; rintro e w1 ⟨rfl, hb⟩; have hx := (hb.cell (World.block_lt_of_cell? _ _ (word_cell w (.slice (some ⟨b, o, none⟩) 1 c) 33))).trans (word_cell w (.slice (some ⟨b, o, none⟩) 1 c) 33); have HB1 := Lib.hid ((HB.out _).trans (hb.mono (HB.out _).size)); have hx1 := cell_below c1 HB1.out; clear hb)
      go_ret2
      exact ⟨rfl, HB1.out⟩
    | false =>
      go_enter Tryd.func18, Tryd.ntmps18
      go_wp2_with (go_at_call 34; refine (HI.out _).mono ?_; rintro e w1 ⟨rfl, hb⟩; have HB1 := Lib.hid ((HB.out _).trans (hb.mono (HB.out _).size)); clear hb)
      go_ret2
      exact ⟨rfl, HB1.out⟩
  · have hp : plainT ps = none := by
      match ps, h1 with
      | [], _ => rfl
      | [q], h => exact absurd ⟨q, rfl⟩ h
      | _ :: _ :: _, _ => rfl
    obtain ⟨p, c, rfl, -, -⟩ := hv.is
    have hl : ¬ ps.length = 1 := fun e => h1 (by
      match ps, e with
      | [q], _ => exact ⟨q, rfl⟩)
    rw [hp]
    obtain ⟨L, hL⟩ : ∃ L, ps.length = L := ⟨_, rfl⟩
    rw [hL] at hl ⊢
    have hne : ((L : Int) != 1) = true := by
      have : (L : Int) ≠ 1 := by omega
      simpa using this
    clear hv h1 hp hL hl
    go_enter Tryd.func18, Tryd.ntmps18
    go_wp2_with fail
    go_ret2
    exact ⟨rfl, HB.out _⟩

theorem hash_prefix (l : List UInt8) : Lib.hasPrefix (T l).data.toList (⟨#[35]⟩ : ByteArray).data.toList = hashT l := by
  show Lib.hasPrefix l [35] = hashT l
  cases l with
  | nil => rfl
  | cons c r =>
    show _ = (c == 35)
    unfold Lib.hasPrefix
    simp only [List.isPrefixOf, Bool.and_true]
    exact BEq.comm

set_option maxRecDepth 100000 in
theorem bare_any (ps : List Pt) (v : Value) (w : World) (hv : PsAt w v ps) (hs : Small ps) :
    Calls Tryd.prog 49 #[wordV v] w fun e w' => e = .returned (.bool (bareW ps)) ∧ Below w.heap.size w w' := by
  have HB := Lib.hid (fun o => below_one w o)
  have HW := Lib.hid (fun W (hb : Below w.heap.size w W) => word_any ps v W (hv.stays hb) hs)
  have HO := Lib.hid (fun W (hb : Below w.heap.size w W) => opening_any ps v W (hv.stays hb))
  have HP := Lib.hid (fun W => prefix_any (T (openT ps)) ⟨#[35]⟩ W)
  rw [hash_prefix] at HP
  have HR := Lib.hid (show bareW ps = (wordT ps && !hashT (openT ps)) from rfl)
  obtain ⟨R, hR⟩ : ∃ R, bareW ps = R := ⟨_, rfl⟩
  rw [hR] at HR ⊢
  obtain ⟨A, hA⟩ : ∃ A, wordT ps = A := ⟨_, rfl⟩
  rw [hA] at HW HR
  obtain ⟨H, hH⟩ : ∃ H, hashT (openT ps) = H := ⟨_, rfl⟩
  rw [hH] at HP HR
  obtain ⟨s, hss⟩ : ∃ s, T (openT ps) = s := ⟨_, rfl⟩
  rw [hss] at HP HO
  obtain ⟨p, c, rfl, -, -⟩ := hv.is
  have hwc := Lib.hid (word_cell w (.slice p ps.length c) 33)
  generalize ps.length = L at HW HO hwc ⊢
  clear hR hA hH hss hs
  unfold wordV at HW HO ⊢
  cases A with
  | true =>
    go_enter Tryd.func49, Tryd.ntmps49
    go_wp2_with (first
      | (go_at_call 13; refine (HW.out _ (HB.out _)).mono ?_; rintro e w1 ⟨rfl, hb⟩; have hx := cell_below hwc.out hb; have HB1 := Lib.hid ((HB.out _).trans (hb.mono (HB.out _).size)); clear hb)
      | (go_at_call 77; refine (HO.out _ HB1.out).mono ?_; rintro e w2 ⟨rfl, hb⟩; have HB2 := Lib.hid (HB1.out.trans (hb.mono HB1.out.size)); clear hb)
      | (go_at_call 76; refine (HP.out _).mono ?_; rintro e w3 ⟨rfl, rfl⟩))
    go_ret
    exact ⟨ret_bool HR.out.symm, HB2.out⟩
  | false =>
    go_enter Tryd.func49, Tryd.ntmps49
    go_wp2_with (go_at_call 13; refine (HW.out _ (HB.out _)).mono ?_; rintro e w1 ⟨rfl, hb⟩; have HB1 := Lib.hid ((HB.out _).trans (hb.mono (HB.out _).size)); clear hb)
    go_ret
    exact ⟨ret_bool HR.out.symm, HB1.out⟩

theorem open_small {ps : List Pt} (hs : Small ps) : (T (openT ps)).size ≤ 1048576 := by
  rw [T_size]
  cases ps with
  | nil => exact Nat.zero_le _
  | cons q r =>
    show (if bareT q = true then q.text else []).length ≤ _
    split
    · exact (hs.get (by simp)).1
    · exact Nat.zero_le _
set_option maxRecDepth 100000 in
theorem gives_any (ps : List Pt) (v : Value) (w : World) (hv : PsAt w v ps) (hs : Small ps) :
    Calls Tryd.prog 73 #[wordV v] w fun e w' => e = .returned (.bool (givesT ps)) ∧ Below w.heap.size w w' := by
  have HB := Lib.hid (fun o => below_one w o)
  have HO := Lib.hid (fun W (hb : Below w.heap.size w W) => opening_any ps v W (hv.stays hb))
  have HC := Lib.hid (fun W => cut_any (T (openT ps)) W (open_small hs))
  have HR := Lib.hid (show givesT ps = (match aheadT (openT ps) with | some n => nameT n | none => false) from rfl)
  rw [show (T (openT ps)).data.toList = openT ps from rfl] at HC
  obtain ⟨R, hR⟩ : ∃ R, givesT ps = R := ⟨_, rfl⟩
  rw [hR] at HR ⊢
  obtain ⟨s, hss⟩ : ∃ s, T (openT ps) = s := ⟨_, rfl⟩
  rw [hss] at HC HO
  generalize aheadT (openT ps) = A at HC HR
  obtain ⟨p, c, rfl, -, -⟩ := hv.is
  have HN := Lib.hid (fun (a : ByteArray) W => name_any a W)
  generalize ps.length = L at HO ⊢
  clear hR hss hs
  unfold wordV at HO ⊢
  cases A with
  | none =>
    have HRf := Lib.hid (show R = false from HR.out)
    clear HR
    go_enter Tryd.func73, Tryd.ntmps73
    go_wp2_with (first
      | (go_at_call 77; refine (HO.out _ (HB.out _)).mono ?_; rintro e w2 ⟨rfl, hb⟩; have HB2 := Lib.hid ((HB.out _).trans (hb.mono (HB.out _).size)); clear hb)
      | (go_at_call 85; refine (HC.out _).mono ?_; rintro e w3 ⟨a, b, f, rfl, hf, hb⟩; have HB3 := Lib.hid (HB2.out.trans (hb.mono HB2.out.size)); have hff : f = false := (by cases f with | false => rfl | true => cases hf); subst hff; clear hb hf))
    go_ret
    exact ⟨ret_bool HRf.out.symm, HB3.out⟩
  | some n =>
    have HRf := Lib.hid (show R = nameT n from HR.out)
    clear HR
    go_enter Tryd.func73, Tryd.ntmps73
    go_wp2_with (first
      | (go_at_call 77; refine (HO.out _ (HB.out _)).mono ?_; rintro e w2 ⟨rfl, hb⟩; have HB2 := Lib.hid ((HB.out _).trans (hb.mono (HB.out _).size)); clear hb)
      | (go_at_call 85; refine (HC.out _).mono ?_; rintro e w3 ⟨a, b, f, rfl, hf, hb⟩; have HB3 := Lib.hid (HB2.out.trans (hb.mono HB2.out.size)); have hff : f = true := (by cases f with | true => rfl | false => cases hf); subst hff; have HA := Lib.hid (show n = a.data.toList from Option.some.inj hf); clear hb hf)
      | (go_at_call 47; refine (HN.out _ _).mono ?_; rintro e w4 ⟨rfl, hb⟩; have HB4 := Lib.hid (HB3.out.trans (hb.mono HB3.out.size)); clear hb))
    go_ret
    exact ⟨ret_bool (by rw [HRf.out, HA.out]; rfl), HB4.out⟩
end Go.Proofs.YtloaalapkmbgeaaDoor
