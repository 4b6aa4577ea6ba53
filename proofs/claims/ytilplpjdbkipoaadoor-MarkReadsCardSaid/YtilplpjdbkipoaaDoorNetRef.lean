/-
  Proved: the statements' own package of chapter 1 puts the same bytes. Conditions: the number is an int64; the text is of at most 2^47 bytes less 32.
-/
import Derived.Test.YtilplpjdbkipoaaDoorNetKeep
import Derived.IntWalk
namespace Go.Proofs.YtilplpjdbkipoaaDoor.NetP
open Go Go.Shelf Go.RowKit NetMath NetMem

theorem digit_conv (u : Nat) (w : World) : (convert 26 9 (.slice (some ⟨w.heap.size, 0, none⟩) 1 1)).run Tryd.prog (w.alloc (.cells #[.int .u8 (48 + (u : Int) % 10)] 5)) =
    .ok (.string ⟨#[UInt8.ofNat (48 + u % 10)]⟩) (w.alloc (.cells #[.int .u8 (48 + (u : Int) % 10)] 5)) := by
  have hd := digit_toNat (d := u % 10) (by omega)
  have e : #[Value.int .u8 (48 + (u : Int) % 10)] = (Lib.byteCells [UInt8.ofNat (48 + u % 10)]).toArray := by
    simp only [Lib.byteCells, List.map_cons, List.map_nil]
    rw [hd]
    simp
  exact Row.convert (Row.lit w 5 [UInt8.ofNat (48 + u % 10)] _ (0, 0) e 1 rfl (by omega))

theorem nDig_le (u : Nat) (h : u < 18446744073709551616) : (Lib.decDigits u).length ≤ 20 := by rw [Lib.decDigits_length]; exact Lib.nDigits_le20 u h

theorem ba_append (a b : List UInt8) : (⟨a.toArray⟩ : ByteArray) ++ ⟨b.toArray⟩ = ⟨(a ++ b).toArray⟩ := by
  apply ByteArray.ext
  simp

set_option maxHeartbeats 2000000 in
set_option maxRecDepth 100000 in
theorem digits_step (u : Nat) (hu : u < 18446744073709551616) (w : World)
    (ih : 10 ≤ u → ∀ w1 : World, Calls Tryd.prog 58 #[.int .u64 ((u : Int) / 10)] w1 fun e w' => e = .returned (.string ⟨(Lib.decDigits (u / 10)).toArray⟩) ∧ Below w1.heap.size w1 w') :
    Calls Tryd.prog 58 #[.int .u64 (u : Int)] w fun e w' => e = .returned (.string ⟨(Lib.decDigits u).toArray⟩) ∧ Below w.heap.size w w' := by
  have hconv := digit_conv u w
  have hb := (Below.refl w.heap.size w).alloc (Nat.le_refl _) (.cells #[.int .u8 (48 + (u : Int) % 10)] 5)
  have HB := Lib.hid hb
  clear hb
  by_cases h10 : u < 10
  · have h1 : u % 10 = u := by omega
    have e : Lib.decDigits u = [UInt8.ofNat (48 + u)] := decDigits_small h10
    rw [h1] at hconv
    rw [e]
    clear ih e h1
    have h2 : ¬ ((10 : Int) ≤ (u : Int)) := by omega
    go_enter Tryd.func58, Tryd.ntmps58
    go_wp2_with fail
    go_ret
    exact ⟨rfl, HB.out⟩
  · have e : Lib.decDigits u = Lib.decDigits (u / 10) ++ [UInt8.ofNat (48 + u % 10)] := decDigits_big h10
    have h2 : (10 : Int) ≤ (u : Int) := by omega
    have HI := Lib.hid (ih (by omega))
    have hl := nDig_le (u / 10) (by omega)
    rw [e]
    clear ih e
    generalize Lib.decDigits (u / 10) = D at HI hl ⊢
    generalize UInt8.ofNat (48 + u % 10) = d at hconv ⊢
    go_enter Tryd.func58, Tryd.ntmps58
    go_wp2_with fail
    refine (HI.out _).mono ?_
    rintro x w1 ⟨rfl, hb1⟩
    have HB1 := Lib.hid (HB.out.trans (hb1.mono HB.out.size))
    clear hb1
    go_wp2_with fail
    go_ret
    refine ⟨?_, HB1.out⟩
    show Ending.returned (.string ((⟨D.toArray⟩ : ByteArray) ++ ⟨[d].toArray⟩)) = _
    rw [ba_append]

theorem digits_all (u : Nat) : ∀ (_ : u < 18446744073709551616) (w : World),
    Calls Tryd.prog 58 #[.int .u64 (u : Int)] w fun e w' => e = .returned (.string ⟨(Lib.decDigits u).toArray⟩) ∧ Below w.heap.size w w' := by
  induction u using Nat.strongRecOn with
  | _ u ih =>
    intro hu w
    refine digits_step u hu w (fun h w1 => ?_)
    have := ih (u / 10) (by omega) (by omega) w1
    rwa [show ((u / 10 : Nat) : Int) = (u : Int) / 10 by omega] at this

theorem digits_any (u : Nat) (hu : u < 18446744073709551616) (z : Int) (hz : z = (u : Int)) (w : World) :
    Calls Tryd.prog 58 #[.int .u64 z] w fun e w' => e = .returned (.string ⟨(Lib.decDigits u).toArray⟩) ∧ Below w.heap.size w w' := by
  subst hz
  exact digits_all u hu w

set_option maxHeartbeats 2000000 in
set_option maxRecDepth 100000 in
theorem itoa_any (n : Int) (hn : I64 n) (w : World) :
    Calls Tryd.prog 48 #[.int .i64 n] w fun e w' => e = .returned (.string ⟨(Lib.itoa n).toArray⟩) ∧ Below w.heap.size w w' := by
  obtain ⟨h0, h1⟩ := hn
  by_cases hneg : n < 0
  · have e : Lib.itoa n = [45] ++ Lib.decDigits n.natAbs := by
      obtain ⟨u, rfl⟩ : ∃ u : Nat, n = -(u : Int) := ⟨n.natAbs, by omega⟩
      rw [Lib.itoa_neg u (by omega), Int.natAbs_neg, Int.natAbs_natCast]; rfl
    rw [e]
    have hl := nDig_le n.natAbs (by omega)
    have HD := Lib.hid (digits_any n.natAbs (by omega))
    have HZ : Hid (n.natAbs = (-n).toNat) := Lib.hid (by omega)
    clear e
    generalize Lib.decDigits n.natAbs = D at HD hl ⊢
    go_enter Tryd.func48, Tryd.ntmps48
    go_wp2_with fail
    refine (HD.out _ (by omega) _).mono ?_
    rintro x w1 ⟨rfl, hb1⟩
    have HB1 := Lib.hid hb1
    clear hb1
    go_wp2_with fail
    go_ret
    refine ⟨?_, HB1.out⟩
    show Ending.returned (.string ((⟨[45].toArray⟩ : ByteArray) ++ ⟨D.toArray⟩)) = _
    rw [ba_append, List.singleton_append]
  · have e : Lib.itoa n = Lib.decDigits n.toNat := by
      obtain ⟨u, rfl⟩ : ∃ u : Nat, n = (u : Int) := ⟨n.toNat, by omega⟩
      rw [Lib.itoa_nonneg, Int.toNat_natCast]
    rw [e]
    have HD := Lib.hid (digits_any n.toNat (by omega))
    have HZ := Lib.hid (show n = (n.toNat : Int) by omega)
    clear e
    generalize Lib.decDigits n.toNat = D at HD ⊢
    go_enter Tryd.func48, Tryd.ntmps48
    go_wp2_with fail
    refine (HD.out _ HZ.out _).mono ?_
    rintro x w1 ⟨rfl, hb1⟩
    have HB1 := Lib.hid hb1
    clear hb1
    go_wp2_with fail
    go_ret
    exact ⟨rfl, HB1.out⟩

/-- '[]byte(s)': new memory that the call owns. -/
theorem conv_own (W : World) (s : ByteArray) (hs : s.size ≤ 140737488355328) : ∃ cap W1, (convert 9 26 (.string s)).run Tryd.prog W = .ok (.slice (some ⟨W.heap.size, 0, none⟩) s.size cap) W1 ∧
    Own W1 W.heap.size (.slice (some ⟨W.heap.size, 0, none⟩) s.size cap) s.data.toList ∧ Below W.heap.size W W1 := by
  have hr := Lib.run_convert_string_bytes (P := Tryd.prog) W 9 26 5 s Tryd.underlying9 Tryd.underlying26 Tryd.underlying5
  have hge := grownCap_ge W s.size 0 5
  have hcm : grownCap W s.size 0 5 ≤ maxLen := grownCap_le_maxLen W s.size 0 5 (by unfold maxLen; omega)
  have hsl := size_len s
  have hsz : (Lib.bytesCells W 5 s).size = grownCap W s.size 0 5 := by
    unfold Lib.bytesCells
    rw [Array.size_append, Array.size_map, Array.size_replicate]
    have : s.data.size = s.size := rfl
    omega
  have hnew := Lib.bytesWorld_at_new W 5 s
  refine ⟨_, _, hr, .inr ⟨W.heap.size, _, by rw [hsl], Nat.le_refl _, by rw [Lib.bytesWorld_size]; omega, by omega, hcm, fun j hj => ⟨?_, ?_⟩, fun j hj => ?_⟩, rfl, rfl, rfl, by rw [Lib.bytesWorld_size]; omega, fun k hk => Lib.bytesWorld_at_old W _ s k hk⟩
  · have : j < (Lib.bytesCells W 5 s).size := by omega
    simp [World.cell?, hnew, this]
  · simp only [World.frozen?, hnew]
    have : ¬ (Lib.bytesCells W 5 s).size ≤ j := by omega
    simp [this]
  · rw [Lib.bytesWorld_cell W _ s j (by omega), List.getD_eq_getElem?_getD, List.getElem?_eq_getElem hj]; rfl

set_option maxHeartbeats 2000000 in
set_option maxRecDepth 100000 in
theorem refnum_any (n : Int) (hn : I64 n) (w : World) :
    Calls Tryd.prog 28 #[.int .i64 n] w fun e w' => ∃ v, e = .returned v ∧ Own w' w.heap.size v (numB n) ∧ Below w.heap.size w w' := by
  have hl := itoa_length20 n hn
  have HI := Lib.hid (itoa_any n hn w)
  obtain ⟨sv, hs⟩ : ∃ sv : ByteArray, (⟨(Lib.itoa n).toArray⟩ : ByteArray) ++ ⟨#[59]⟩ = sv := ⟨_, rfl⟩
  have HS : Hid (sv.data.toList = numB n) := by
    rw [← hs, show (⟨#[59]⟩ : ByteArray) = ⟨[59].toArray⟩ from rfl, ba_append]; exact List.toList_toArray
  have HSZ := Lib.hid (show sv.size ≤ 140737488355328 by rw [size_len, HS.out]; have := numB_len n hn; omega)
  clear hn
  go_enter Tryd.func28, Tryd.ntmps28
  go_wp2_with fail
  refine HI.out.mono ?_
  rintro x w1 ⟨rfl, hb1⟩
  obtain ⟨cap, W1, hcv, hown, hb2⟩ := conv_own w1 sv HSZ.out
  have HO := Lib.hid hown
  have HB := Lib.hid (hb1.trans (hb2.mono hb1.size))
  have HB1 := Lib.hid hb1.size
  clear hown hb1 hb2
  go_wp2_with fail
  go_ret
  refine ⟨_, rfl, ?_, HB.out⟩
  have := HO.out.mono HB1.out
  rw [HS.out] at this
  exact this

set_option maxHeartbeats 2000000 in
set_option maxRecDepth 100000 in
theorem reftext_any (s : ByteArray) (hs : s.size ≤ 140737488355296) (w : World) :
    Calls Tryd.prog 29 #[.string s] w fun e w' => ∃ v, e = .returned v ∧ Own w' w.heap.size v (textB s.data.toList) ∧ Below w.heap.size w w' := by
  obtain ⟨i0, hi, hz0, hz1, hz2⟩ := info_parts info5
  have hl := size_len s
  have hn : I64 (s.size : Int) := ⟨by omega, by omega⟩
  have hnl := numB_len _ hn
  have HN := Lib.hid (refnum_any (s.size : Int) hn w)
  have HL := Lib.hid hl
  clear hl
  go_enter Tryd.func29, Tryd.ntmps29
  go_wp2_with fail
  refine HN.out.mono ?_
  rintro e w1 ⟨v1, rfl, ho1, hb1⟩
  have hsrc := src_string (P := Tryd.prog) w1 Tryd.underlying9 s
  have hlt := ho1.lt
  have hsz := hb1.size
  go_wp2_with (at_builtin; refine wpList_append_bytes _ rfl _ _ 26 9 rfl 5 i0 Tryd.underlying26 hi hz0 hz1 hz2 w.heap.size _ _ rfl ho1 _ s.data.toList rfl hsrc ?lim ?hB ?_)
  case lim => have := HL.out; omega
  case hB => exact hsz
  intro v2 w2 ho3 hg3 _
  go_wp2
  go_ret
  refine ⟨v2, rfl, ?_, hb1.grown hg3 hsz (fun k hk => (hlt k hk).1)⟩
  unfold textB
  rw [← HL.out]
  exact ho3
end Go.Proofs.YtilplpjdbkipoaaDoor.NetP
