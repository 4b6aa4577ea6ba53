/-
  Proved: the walk of the law NetOdd: none of its thirteen texts begins with a number's bytes; the least int64's bytes do; of nil nothing is taken. Conditions: the library's table and its two sentinel errors read as laid.
-/
import Derived.Test.YtnikbdabajoaaaaDoorKeep
import Derived.Deep.RegionHeld3
import Derived.Lib.ConvBytes
namespace Go.Proofs.YtnikbdabajoaaaaDoor
open Go Go.Shelf Go.RowKit NetMath NetMem

theorem firstN_neg {l : List UInt8} (h : Lib.indexByte (l.take 21) 59 < 0) : firstN l = none := by unfold firstN; simp only; rw [if_pos h]
def isOk (x : Lib.NumEnd Int) : Bool := match x with | .ok _ => true | _ => false
theorem firstN_bad {l : List UInt8} (e : Nat) (he : Lib.indexByte (l.take 21) 59 = e) (hb : isOk (Lib.parseIntB 64 (l.take e)) = false) : firstN l = none := by
  unfold firstN
  simp only
  rw [he, if_neg (by omega), Int.toNat_natCast]
  revert hb
  cases Lib.parseIntB 64 (l.take e) with
  | ok n => intro h; cases h
  | _ => intro _; rfl
theorem firstN_ne {l : List UInt8} (e : Nat) (n : Int) (he : Lib.indexByte (l.take 21) 59 = e) (hp : Lib.parseIntB 64 (l.take e) = .ok n) (hne : numB n ≠ l.take (e + 1)) : firstN l = none := by
  unfold firstN
  simp only
  rw [he, if_neg (by omega), Int.toNat_natCast, hp]
  simp only
  rw [if_neg hne]
theorem numB_one : numB 1 = [49, 59] := by
  unfold numB
  rw [show (1 : Int) = ((1 : Nat) : Int) from rfl, Lib.itoa_nonneg, decDigits_small (by omega)]; rfl
theorem numB_zero : numB 0 = [48, 59] := by
  unfold numB
  rw [show (0 : Int) = ((0 : Nat) : Int) from rfl, Lib.itoa_nonneg, decDigits_small (by omega)]; rfl

/-- The law's texts. -/
def oddL : List (List UInt8) := [[], [59], [48, 49, 59], [45, 48, 59], [45, 59], [49], [43, 49, 59], [32, 49, 59],
  [57, 50, 50, 51, 51, 55, 50, 48, 51, 54, 56, 53, 52, 55, 55, 53, 56, 48, 56, 59], [45, 57, 50, 50, 51, 51, 55, 50, 48, 51, 54, 56, 53, 52, 55, 55, 53, 56, 48, 57, 59], [49, 44], [45, 45, 49, 59], [48, 48, 59]]

theorem odd_none : ∀ l ∈ oddL, firstN l = none ∧ l.length ≤ 21 := by
  intro l hl
  simp only [oddL, List.mem_cons, List.not_mem_nil, or_false] at hl
  rcases hl with rfl | rfl | rfl | rfl | rfl | rfl | rfl | rfl | rfl | rfl | rfl | rfl | rfl
  · exact ⟨firstN_neg (by decide), by decide⟩
  · exact ⟨firstN_bad 0 (by decide) (by decide), by decide⟩
  · exact ⟨firstN_ne 2 1 (by decide) (by decide) (by rw [numB_one]; decide), by decide⟩
  · exact ⟨firstN_ne 2 0 (by decide) (by decide) (by rw [numB_zero]; decide), by decide⟩
  · exact ⟨firstN_bad 1 (by decide) (by decide), by decide⟩
  · exact ⟨firstN_neg (by decide), by decide⟩
  · exact ⟨firstN_ne 2 1 (by decide) (by decide) (by rw [numB_one]; decide), by decide⟩
  · exact ⟨firstN_bad 2 (by decide) (by decide), by decide⟩
  · exact ⟨firstN_bad 19 (by decide) (by decide), by decide⟩
  · exact ⟨firstN_bad 20 (by decide) (by decide), by decide⟩
  · exact ⟨firstN_neg (by decide), by decide⟩
  · exact ⟨firstN_bad 3 (by decide) (by decide), by decide⟩
  · exact ⟨firstN_ne 2 0 (by decide) (by decide) (by rw [numB_zero]; decide), by decide⟩

/-- The least int64. -/
def leastL : List UInt8 := [45, 57, 50, 50, 51, 51, 55, 50, 48, 51, 54, 56, 53, 52, 55, 55, 53, 56, 48, 56, 59]
theorem dd (u d : Nat) (q : Nat) (hq : u / 10 = q) (hd : u % 10 = d) (h : ¬ u < 10) : Lib.decDigits u = Lib.decDigits q ++ [UInt8.ofNat (48 + d)] := by
  rw [decDigits_big h, hq, hd]
theorem least_first : numV leastL = -9223372036854775808 ∧ numOk leastL = true := by
  have e : numB (-9223372036854775808) = leastL := by
    unfold numB
    rw [show (-9223372036854775808 : Int) = -((9223372036854775808 : Nat) : Int) from rfl, Lib.itoa_neg _ (by omega)]
    iterate 18 rw [decDigits_big (by omega)]
    rw [decDigits_small (by omega)]
    rfl
  have h := num_take (-9223372036854775808) ⟨by omega, by omega⟩ []
  rw [List.append_nil, e] at h
  exact ⟨h.1, h.2.1⟩

/-- '[]byte(s)'. -/
theorem conv_row (W : World) (s : ByteArray) (hs : s.size ≤ 140737488355328) : ∃ cap W1, (convert 9 22 (.string s)).run Tryd.prog W = .ok (.slice (some ⟨W.heap.size, 0, none⟩) s.size cap) W1 ∧
    Row W1 (.slice (some ⟨W.heap.size, 0, none⟩) s.size cap) s.data.toList ∧ Below W.heap.size W W1 := by
  have hr := Lib.run_convert_string_bytes (P := Tryd.prog) W 9 22 5 s Tryd.underlying9 Tryd.underlying22 Tryd.underlying5
  have hge := grownCap_ge W s.size 0 5
  have hcm : grownCap W s.size 0 5 ≤ maxLen := grownCap_le_maxLen W s.size 0 5 (by unfold maxLen; omega)
  have hsl := size_len s
  refine ⟨_, _, hr, ⟨_, _, by rw [hsl], by omega, hcm, fun _ => ⟨_, 0, rfl, fun i hi => ?_⟩⟩, rfl, rfl, rfl, by rw [Lib.bytesWorld_size]; omega, fun k hk => Lib.bytesWorld_at_old W _ s k hk⟩
  rw [Nat.zero_add, Lib.bytesWorld_cell W _ s i (by omega)]
  rw [List.getD_eq_getElem?_getD, List.getElem?_eq_getElem hi]; rfl

/-- The law's list of texts, as it is laid. -/
abbrev oddArr : Array Value := #[.string ⟨#[]⟩, .string ⟨#[59]⟩, .string ⟨#[48, 49, 59]⟩, .string ⟨#[45, 48, 59]⟩, .string ⟨#[45, 59]⟩, .string ⟨#[49]⟩, .string ⟨#[43, 49, 59]⟩, .string ⟨#[32, 49, 59]⟩,
  .string ⟨#[57, 50, 50, 51, 51, 55, 50, 48, 51, 54, 56, 53, 52, 55, 55, 53, 56, 48, 56, 59]⟩, .string ⟨#[45, 57, 50, 50, 51, 51, 55, 50, 48, 51, 54, 56, 53, 52, 55, 55, 53, 56, 48, 57, 59]⟩, .string ⟨#[49, 44]⟩, .string ⟨#[45, 45, 49, 59]⟩, .string ⟨#[48, 48, 59]⟩]
abbrev leastArr : Array Value := #[.int .u8 45, .int .u8 57, .int .u8 50, .int .u8 50, .int .u8 51, .int .u8 51, .int .u8 55, .int .u8 50, .int .u8 48, .int .u8 51, .int .u8 54, .int .u8 56, .int .u8 53, .int .u8 52, .int .u8 55, .int .u8 55, .int .u8 53, .int .u8 56, .int .u8 48, .int .u8 56, .int .u8 59]

theorem odd_at (k : Nat) (hk : k < 13) : ∃ s : ByteArray, oddArr[k]? = some (.string s) ∧ s.data.toList ∈ oddL := by
  match k, hk with
  | 0, _ => exact ⟨_, rfl, by decide⟩
  | 1, _ => exact ⟨_, rfl, by decide⟩
  | 2, _ => exact ⟨_, rfl, by decide⟩
  | 3, _ => exact ⟨_, rfl, by decide⟩
  | 4, _ => exact ⟨_, rfl, by decide⟩
  | 5, _ => exact ⟨_, rfl, by decide⟩
  | 6, _ => exact ⟨_, rfl, by decide⟩
  | 7, _ => exact ⟨_, rfl, by decide⟩
  | 8, _ => exact ⟨_, rfl, by decide⟩
  | 9, _ => exact ⟨_, rfl, by decide⟩
  | 10, _ => exact ⟨_, rfl, by decide⟩
  | 11, _ => exact ⟨_, rfl, by decide⟩
  | 12, _ => exact ⟨_, rfl, by decide⟩
  | n + 13, h => omega

theorem odd_out (z : Int) (hz : z < 0 ∨ 13 ≤ z) (w : World) :
    Calls Tryd.prog 5 #[.int .i64 z] w fun e w' => e = .returned (.bool true) ∧ Below w.heap.size w w' := by
  have hb := (Below.refl w.heap.size w).alloc (Nat.le_refl _) (.cells oddArr 9)
  rcases hz with hz | hz
  · go_enter Tryd.func5, Tryd.ntmps5
    go_wp2_with fail
    go_ret
    exact ⟨rfl, hb⟩
  · have hz0 : ¬ z < 0 := by omega
    go_enter Tryd.func5, Tryd.ntmps5
    go_wp2_with fail
    go_ret
    exact ⟨rfl, hb⟩

/-- What holds of the world while the law's last statement runs. -/
def OddS (w : World) (r : Nat) (s : ByteArray) (W : World) : Prop := Rd 48 W r s.data.toList ∧ Glob W ∧ Below w.heap.size w W

theorem known_odd (w : World) (r : Nat) (s : ByteArray) (k : Nat) (W : World) (hh : W.cell? ⟨w.heap.size, k, none⟩ = some (.string s) ∧ OddS w r s W) :
    Calls Tryd.prog 16 #[] W fun e w' => e = .returned (.bool true) ∧ (w'.cell? ⟨w.heap.size, k, none⟩ = some (.string s) ∧ OddS w r s w') :=
  (known_any W hh.2.2.1).mono fun e w' ⟨he, hb⟩ => ⟨he, by rw [hb.cell (p := ⟨w.heap.size, k, none⟩) (lt_of_cell hh.1)]; exact hh.1, hh.2.1.below hb, hh.2.2.1.below hb, hh.2.2.2.trans (hb.mono hh.2.2.2.size)⟩

set_option maxHeartbeats 2000000 in
set_option maxRecDepth 100000 in
theorem odd_in (k : Nat) (hk : k < 13) (w : World) (hg : Glob w) :
    Calls Tryd.prog 5 #[.int .i64 (k : Int)] w fun e w' => e = .returned (.bool true) ∧ Below w.heap.size w w' := by
  obtain ⟨s, hs, hmem⟩ := odd_at k hk
  obtain ⟨hnone, hlen⟩ := odd_none _ hmem
  have hsl := size_len s
  have hcell : (w.alloc (.cells oddArr 9)).cell? ⟨w.heap.size, k, none⟩ = some (.string s) := by rw [new_cell]; exact hs
  obtain ⟨cap, W1, hcv, hrow, hb1⟩ := conv_row (w.alloc (.cells oddArr 9)) s (by omega)
  have hB1 : Hid (Below w.heap.size w W1) := ((Below.refl _ w).alloc (Nat.le_refl _) _).trans (hb1.mono (by simp))
  have hcell1 : Hid (W1.cell? ⟨w.heap.size, k, none⟩ = some (.string s)) := by rw [hb1.cell (p := ⟨w.heap.size, k, none⟩) (by simp)]; exact hcell
  have hw1 := Lib.hid (show w.heap.size + 1 ≤ W1.heap.size by have := hb1.size; simpa using this)
  simp only [World.size_alloc] at hcv hrow
  have HRow := Lib.hid hrow
  have HG := Lib.hid hg
  have HL := Lib.hid (And.intro hnone (And.intro hlen hsl))
  have hk0 : ¬ ((k : Int) < 0) := by omega
  have hk1 : ¬ ((13 : Int) ≤ (k : Int)) := by omega
  clear hs hmem hnone hlen hsl hrow hg hb1
  go_enter Tryd.func5, Tryd.ntmps5
  go_wp2_with fail
  refine (new_any _ s.data.toList (by have := HL.out.2.1; omega) _ HRow.out).mono ?_
  rintro e w2 ⟨r, rfl, hr0, hr1, hrd, hb2⟩
  have HB2 := Lib.hid (hb2.mono hw1.out)
  have hr : w.heap.size + 1 ≤ r := Nat.le_trans hw1.out hr0
  have HRD := Lib.hid hrd
  have hG2 := Lib.hid ((HG.out.below hB1.out).below hb2)
  have hs2 := Nat.le_trans hw1.out HB2.out.size
  clear hr0 hr1 hrd hb2
  go_wp2_with fail
  refine (rnum_any r _ (by have := HL.out.2.1; omega) w2 HRD.out hG2.out).mono ?_
  rintro e w3 ⟨rfl, hrd3, hk3⟩
  rw [show numV s.data.toList = 0 by unfold numV; rw [HL.out.1], show numOk s.data.toList = false by unfold numOk; rw [HL.out.1]; rfl]
  rw [show numRest s.data.toList = s.data.toList by unfold numRest; rw [HL.out.1]] at hrd3
  have HB3 := Lib.hid (HB2.out.trans (hk3.below hs2 hr))
  have HRD3 := Lib.hid hrd3
  have HG3 := Lib.hid ((HG.out.below hB1.out).keep (w' := w3) (fun j hj => HB3.out.block j (by have := HG.out.size; omega)))
  have hs3 := Nat.le_trans hw1.out HB3.out.size
  clear hrd3 hk3 HRD hG2 HB2
  have kc := fun (W : World) (C : Array Value) (n c : Nat) => Lib.run_convert_bytes_const (P := Tryd.prog) W 22 5 C n c Tryd.underlying22 Tryd.underlying5
  have HRow4 := Lib.hid (Row.lit w3 5 leastL leastArr (21, 22) rfl 21 rfl (by omega))
  have hb4 : Below w3.heap.size w3 (w3.alloc (.cells leastArr 5 (21, 22))) := (Below.refl _ _).alloc (Nat.le_refl _) _
  have HB4 := Lib.hid (HB3.out.trans (hb4.mono hs3))
  have HRD4 := Lib.hid (HRD3.out.below hb4)
  have HG4 := Lib.hid (HG3.out.below hb4)
  have hs4 := Nat.le_trans hw1.out HB4.out.size
  have hq4 := Lib.hid (show r < (w3.alloc (.cells leastArr 5 (21, 22))).heap.size from HRD4.out.lt)
  clear hb4 HRD3 HB3 HG3
  go_wp2_with fail
  refine (new_any _ leastL (by decide) _ HRow4.out).mono ?_
  rintro e w5 ⟨x, rfl, hx0, hx1, hxd, hb5⟩
  have hne : r ≠ x := by have := hq4.out; omega
  have hx : w.heap.size + 1 ≤ x := by omega
  have HB5 := Lib.hid (HB4.out.trans (hb5.mono hs4))
  have HXD := Lib.hid hxd
  have HRD5 := Lib.hid (HRD4.out.below hb5)
  have HG5 := Lib.hid (HG4.out.below hb5)
  have hs5 := Nat.le_trans hw1.out HB5.out.size
  clear hx0 hx1 hxd hb5 HB4 HRD4 HG4 hs4 hq4 kc HRow4 hs2 hs3
  have hHN := Lib.hid hne
  clear hne
  go_wp2_with fail
  refine (rnum_any x leastL (by decide) w5 HXD.out HG5.out).mono ?_
  rintro e w6 ⟨rfl, hxd6, hk6⟩
  rw [least_first.1, least_first.2]
  have HB6 := Lib.hid (HB5.out.trans (hk6.below hs5 hx))
  have HRD6 := Lib.hid (HRD5.out.kept HXD.out hHN.out hk6)
  have HG6 := Lib.hid ((HG.out.below hB1.out).keep (w' := w6) (fun j hj => HB6.out.block j (by have := HG.out.size; omega)))
  clear hxd6 hk6 HRD5 HB5 HG5 HXD
  go_wp2_with fail
  refine (rnum_nil w6).mono ?_
  rintro e w7 ⟨rfl, rfl⟩
  go_wp2_with fail
  refine (rtext_nil w6).mono ?_
  rintro e w7 ⟨rfl, rfl⟩
  have hc6 : w6.cell? ⟨w.heap.size, k, none⟩ = some (.string s) := by rw [HB6.out.cell (p := ⟨w.heap.size, k, none⟩) (by show w.heap.size < w.heap.size + 1; omega)]; exact hcell1.out
  clear hcell hcv
  have hleft : ∀ W : World, Rd 48 W r s.data.toList → Calls Tryd.prog 15 #[.pointer (some ⟨r, 0, none⟩)] W fun e w' => e = .returned (.int .i64 (s.size : Int)) ∧ W = w' := fun W h =>
    (left_any r _ W h).mono fun e w' ⟨he, hw⟩ => ⟨by rw [he, HL.out.2.2], hw⟩
  have HLF := Lib.hid hleft
  clear hleft
  have hi0 : (k : Int) < 13 := by omega
  have hi1 : (0 : Int) ≤ (k : Int) := by omega
  have HS6 := Lib.hid (show OddS w r s w6.drew from ⟨HRD6.out, HG6.out, (hB1.out.trans (HB6.out.mono (by omega))).trans (below_drew _ _)⟩)
  have HLF2 := Lib.hid (show ∀ W : World, (W.cell? ⟨w.heap.size, k, none⟩ = some (.string s) ∧ OddS w r s W) → Calls Tryd.prog 15 #[.pointer (some ⟨r, 0, none⟩)] W fun e w' => e = .returned (.int .i64 (s.size : Int)) ∧ W = w' from fun W h => HLF.out W h.2.1)
  go_wp2_with fail
  go_region_held3 (fun W => W.cell? ⟨w.heap.size, k, none⟩ = some (.string s) ∧ OddS w r s W) (first | assumption | exact ⟨by simpa using hc6, HS6.out⟩)
    (first
      | (go_at_call 15; (with_reducible refine (HLF2.out _ (by assumption)).mono ?_); rintro e w7 ⟨rfl, rfl⟩)
      | (go_at_call 15; (with_reducible refine (left_nil _).mono ?_); rintro e w7 ⟨rfl, rfl⟩)
      | (go_at_call 16; (with_reducible refine (known_odd w r s k _ (by assumption)).mono ?_); rintro e w8 ⟨rfl, hs8⟩))
  have HE := Lib.hid hs8.2.2.2
  clear hs8
  go_wp2_with fail
  go_ret
  exact ⟨rfl, HE.out⟩

/-- THE LAW's WALK. -/
theorem odd_law (z : Int) (w : World) (hg : Glob w) :
    Calls Tryd.prog 5 #[.int .i64 z] w fun e w' => e = .returned (.bool true) ∧ Below w.heap.size w w' := by
  by_cases hz : z < 0 ∨ 13 ≤ z
  · exact odd_out z hz w
  · obtain ⟨k, rfl⟩ : ∃ k : Nat, z = (k : Int) := ⟨z.toNat, by omega⟩
    exact odd_in k (by omega) w hg
end Go.Proofs.YtnikbdabajoaaaaDoor
