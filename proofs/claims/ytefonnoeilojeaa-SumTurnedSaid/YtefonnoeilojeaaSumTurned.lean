/-
  Proved: the walk of the law SumTurned: one byte turned turns the sum, so it answers true and changes nothing that was there. Conditions: the bytes can be read.
-/
import Derived.Test.YtefonnoeilojeaaSumRows
namespace Go.Proofs.Ytefonnoeilojeaa
open Go Go.RowKit SumMath NetMem

theorem i64_and65535 (n : Int) : bits .and .i64 n 65535 = n % 65536 := by
  have h127 : (BitVec.ofInt 64 65535).toNat = 2 ^ 16 - 1 := by decide
  have key : (BitVec.ofInt 64 n &&& BitVec.ofInt 64 65535).toNat = (n % ((2 ^ 64 : Nat) : Int)).toNat % 2 ^ 16 := by
    rw [BitVec.toNat_and, BitVec.toNat_ofInt, h127, Nat.and_two_pow_sub_one_eq_mod]
  show IntKind.i64.wrap ((BitVec.ofInt 64 n &&& BitVec.ofInt 64 65535).toNat : Nat) = n % 65536
  rw [key, IntKind.wrap_i64]
  omega

/-- A byte written into what the call owns. -/
theorem Own.store {w : World} {B g n cap : Nat} {l : List UInt8} (h : Own w B (.slice (some ⟨g, 0, none⟩) n cap) l) (k : Nat) (hk : k < l.length) (d : UInt8) :
    Own (w.setCell ⟨g, k, none⟩ (.int .u8 (d.toNat : Int))) B (.slice (some ⟨g, 0, none⟩) n cap) (l.set k d) := by
  rcases h with ⟨h1, -⟩ | ⟨g', cap', hv, hB, hg, hlc, hcm, hf, hc⟩
  · simp at h1
  · simp only [Value.slice.injEq, Option.some.injEq, Addr.mk.injEq] at hv
    obtain ⟨⟨rfl, -, -⟩, rfl, rfl⟩ := hv
    refine .inr ⟨g, cap, by rw [List.length_set], hB, by simpa [World.setCell] using hg, by rw [List.length_set]; exact hlc, hcm, fun j hj => ⟨?_, ?_⟩, fun j hj => ?_⟩
    · by_cases e : j = k
      · subst e
        rw [World.cell?_setCell_same (h := hc j hk)]; rfl
      · rw [World.cell?_setCell_other (h := fun h => e (by cases h; rfl))]; exact (hf j hj).1
    · rw [World.frozen?_setCell]; exact (hf j hj).2
    · by_cases e : j = k
      · subst e
        rw [World.cell?_setCell_same (h := hc j hk)]; simp
      · rw [List.length_set] at hj
        rw [World.cell?_setCell_other (h := fun h => e (by cases h; rfl)), hc j hj]
        rw [List.getElem_set_ne (fun h => e h.symm)]

theorem turned_set (l : List UInt8) (k : Nat) (hk : k < l.length) (d : UInt8) (hd : l[k] ≠ d) : sumOf (l.set k d) ≠ sumOf l := by
  rw [List.set_eq_take_append_cons_drop, if_pos hk]
  have := turned (l.take k) (l.drop (k + 1)) d l[k] (fun h => hd h.symm)
  rwa [← List.drop_eq_getElem_cons hk, List.take_append_drop] at this

set_option maxHeartbeats 2000000 in
set_option maxRecDepth 100000 in
theorem turned_out (p : Option Addr) (n c : Nat) (z : Int) (d : Int) (w : World) (h : n < 1 ∨ 1000 < n ∨ d = 0) (hn : n ≤ 9223372036854775807) :
    Calls Try.prog 5 #[.slice p n c, .int .i64 z, .int .u8 d] w fun e w' => e = .returned (.bool true) ∧ Below w.heap.size w w' := by
  go_enter Try.func5, Try.ntmps5
  rcases Classical.em (n < 1) with h1 | h1
  · clear h
    go_wp2_with fail
    all_goals
      go_ret
      exact ⟨rfl, Below.refl _ _⟩
  · rcases Classical.em (1000 < n) with h2 | h2
    · clear h
      go_wp2_with fail
      all_goals
        go_ret
        exact ⟨rfl, Below.refl _ _⟩
    · obtain rfl : d = 0 := by omega
      clear h
      go_wp2_with fail
      all_goals
        go_ret
        exact ⟨rfl, Below.refl _ _⟩

set_option maxHeartbeats 2000000 in
set_option maxRecDepth 100000 in
theorem turned_in (p : Option Addr) (c : Nat) (l : List UInt8) (z : Int) (d : UInt8) (w : World) (h : Row w (.slice p l.length c) l) (h1 : ¬ l.length < 1) (h2 : ¬ 1000 < l.length) (hd : ¬ (d.toNat : Int) = 0) :
    Calls Try.prog 5 #[.slice p l.length c, .int .i64 z, .int .u8 (d.toNat : Int)] w fun e w' => e = .returned (.bool true) ∧ Below w.heap.size w w' := by
  obtain ⟨i0, hi, hz0, hz1, hz2⟩ := info_parts info5
  have hand := i64_and65535 z
  have hcond : (decide ((l.length : Int) < 1) || decide ((1000 : Int) < (l.length : Int)) || ((d.toNat : Int) == 0)) = false := by simp; omega
  have ho1 : Own (w.alloc (.cells #[] 5)) w.heap.size (.slice (some ⟨w.heap.size, 0, none⟩) 0 0) [] := Own.made w 5 [] 0 (by simp) (by simp [maxLen]) #[] rfl (fun j h => by simp at h) _ (Nat.le_refl _)
  have hb1 : Below w.heap.size w (w.alloc (.cells #[] 5)) := (Below.refl _ w).alloc (Nat.le_refl _) _
  have hr1 := h.below hb1
  have hsrc := Row.src (P := Try.prog) hr1 Try.underlying22
  go_enter Try.func5, Try.ntmps5
  go_wp2_with (at_builtin; refine wpList_append_bytes _ rfl _ _ 22 22 rfl 5 i0 Try.underlying22 hi hz0 hz1 hz2 w.heap.size _ _ rfl ho1 _ l rfl hsrc ?lim ?hB ?_)
  case lim => simp; omega
  case hB => exact hb1.size
  intro v' w' ho3 hg3 hnil
  have hb3 := hb1.grown hg3 hb1.size (fun k hk => by simp [Value.ownBlock] at hk; omega)
  obtain ⟨g, cap, rfl, hg0⟩ : ∃ g cap, v' = .slice (some ⟨g, 0, none⟩) l.length cap ∧ w.heap.size ≤ g := by
    rcases id ho3 with ⟨hv, -⟩ | ⟨g, cap, hv, hg0, -⟩
    · exact absurd hv hnil
    · exact ⟨g, cap, hv, hg0⟩
  obtain ⟨k, hk⟩ : ∃ k : Nat, z % 65536 % (l.length : Int) = (k : Int) := ⟨(z % 65536 % (l.length : Int)).toNat, by
    have := Int.emod_nonneg (z % 65536) (show (l.length : Int) ≠ 0 by omega)
    omega⟩
  have hkl : k < l.length := by
    have := Int.emod_lt_of_pos (z % 65536) (show (0 : Int) < (l.length : Int) by omega)
    omega
  obtain ⟨hcell, hfro, hcap, hcm⟩ : w'.cell? ⟨g, k, none⟩ = some (.int .u8 (l[k].toNat : Int)) ∧ w'.frozen? ⟨g, k, none⟩ = false ∧ l.length ≤ cap ∧ cap ≤ 9223372036854775807 := by
    rcases id ho3 with ⟨hv, -⟩ | ⟨g', cap', hv, -, -, hlc, hcm, hf, hc⟩
    · simp at hv
    · simp only [Value.slice.injEq, Option.some.injEq, Addr.mk.injEq] at hv
      obtain ⟨⟨rfl, -, -⟩, -, rfl⟩ := hv
      exact ⟨hc k hkl, (hf k (by omega)).2, hlc, by unfold maxLen at hcm; omega⟩
  have HO := Lib.hid ho3
  have HB := Lib.hid hb3
  have HR := Lib.hid (h.below hb3)
  have HH := Lib.hid h
  obtain ⟨e, he⟩ : ∃ e, e = l[k] := ⟨_, rfl⟩
  rw [← he] at hcell
  have HE := Lib.hid he
  have hel := e.toNat_lt
  have hdl := d.toNat_lt
  have hmod : (0 : Int) ≤ z % 65536 := by omega
  have hl0 : (0 : Int) < (l.length : Int) := by omega
  have hx := u8_xor_nat e.toNat d.toNat (by omega) (by omega)
  rw [← UInt8.toNat_xor] at hx
  obtain ⟨y, hy⟩ : ∃ y, y = e ^^^ d := ⟨_, rfl⟩
  rw [← hy] at hx
  have hney : l[k] ≠ y := by
    rw [← he, hy]
    intro h
    have h5 : d = 0 := by
      have := congrArg (fun z => e ^^^ z) h
      simpa [← UInt8.xor_assoc] using this.symm
    exact hd (by rw [h5]; rfl)
  have HN := Lib.hid (turned_set l k hkl y hney)
  have HS := Lib.hid (Own.store HO.out k hkl y)
  have HBS := Lib.hid (HB.out.setCell (p := ⟨g, k, none⟩) hg0 (.int .u8 (y.toNat : Int)))
  have HRS := Lib.hid (HH.out.below HBS.out)
  have HL1 := Lib.hid (RowsAt.lit _ 22 _ _ _ _ HS.out.row w'.heap.size (by simp [World.setCell]))
  have HB1 := Lib.hid (HBS.out.alloc HBS.out.size (.cells #[.slice (some ⟨g, 0, none⟩) l.length cap] 22))
  have HL2 := Lib.hid (RowsAt.lit _ 22 _ _ _ _ (HH.out.below HB1.out) (w'.heap.size + 1) (by simp [World.setCell]))
  obtain ⟨W1, hW1⟩ : ∃ W1, W1 = (w'.setCell ⟨g, k, none⟩ (.int .u8 (y.toNat : Int))).alloc (.cells #[.slice (some ⟨g, 0, none⟩) l.length cap] 22) := ⟨_, rfl⟩
  have hs1 : W1.heap.size = w'.heap.size + 1 := by rw [hW1]; simp [World.setCell]
  have HB2 := Lib.hid (HB1.out.alloc HB1.out.size (.cells #[.slice p l.length c] 22))
  rw [← hW1] at HL1 HB1 HL2 HB2
  have HW1 := Lib.hid hW1
  clear hy hney hW1 ho1 hb1 hr1 hsrc ho3 hg3 hnil hb3 h he
  go_wp2_with fail
  rw [← HW1.out]
  refine (of_one _ _ (l.set k y) _ HL1.out).mono ?_
  rintro e2 w2 ⟨rfl, rfl⟩
  obtain ⟨s1, hs1'⟩ : ∃ s1 : Int, s1 = (sumOf (l.set k y) : Nat) := ⟨_, rfl⟩
  obtain ⟨s2, hs2'⟩ : ∃ s2 : Int, s2 = (sumOf l : Nat) := ⟨_, rfl⟩
  rw [← hs1']
  have hne : (s1 == s2) = false := by
    rw [hs1', hs2']
    have := HN.out
    simp
    omega
  have HS2 := Lib.hid hs2'
  clear hs1' hs2'
  go_wp2_with fail
  refine (of_one _ _ l _ HL2.out).mono ?_
  rintro e2 w2 ⟨rfl, rfl⟩
  rw [← HS2.out]
  have hne2 : (s1 != s2) = true := by simp [bne, hne]
  have hne3 : ¬ s1 = s2 := by simpa using hne
  go_wp2_with fail
  refine (known_any _).mono ?_
  rintro e2 w3 ⟨rfl, hb3⟩
  have HB3 := Lib.hid (HB2.out.trans (hb3.mono HB2.out.size))
  clear hb3
  go_wp2_with fail
  go_ret
  exact ⟨rfl, HB3.out⟩

/-- THE LAW's WALK. -/
theorem turned_law (p : Option Addr) (c : Nat) (l : List UInt8) (z : Int) (d : UInt8) (w : World) (h : Row w (.slice p l.length c) l) :
    Calls Try.prog 5 #[.slice p l.length c, .int .i64 z, .int .u8 (d.toNat : Int)] w fun e w' => e = .returned (.bool true) ∧ Below w.heap.size w w' := by
  by_cases h0 : l.length < 1 ∨ 1000 < l.length ∨ (d.toNat : Int) = 0
  · have := (Row.nums h).2
    have h2 := this.2.1
    unfold maxLen at h2
    exact turned_out p l.length c z d.toNat w h0 (by omega)
  · exact turned_in p c l z d w h (by omega) (by omega) (by omega)
end Go.Proofs.Ytefonnoeilojeaa
