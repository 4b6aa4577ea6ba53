/-
  Proved: the laws' own check of the chapter's example answers true. Conditions: the library's table and its two sentinel errors read as laid.
-/
import Derived.Test.YtnikbdabajoaaaaDoorRead2
import Derived.Lib.SlBytesConst
namespace Go.Proofs.YtnikbdabajoaaaaDoor
open Go Go.Shelf Go.RowKit NetMath NetMem

theorem textB_ab : textB [97, 98] = [50, 59, 97, 98] := by
  unfold textB numB
  have : Lib.itoa (([97, 98] : List UInt8).length : Int) = [50] := by
    rw [show (([97, 98] : List UInt8).length : Int) = ((2 : Nat) : Int) from rfl, Lib.itoa_nonneg, decDigits_small (by omega)]
    rfl
  rw [this]
  rfl

/-- A slice that a literal has just made. -/
theorem Row.lit (w : World) (e : TypeId) (l : List UInt8) (cs : Array Value) (fr : Nat × Nat) (hcs : cs = (Lib.byteCells l).toArray) (n : Nat) (hn : n = l.length) (hm : n ≤ 1000) : Row (w.alloc (.cells cs e fr)) (.slice (some ⟨w.heap.size, 0, none⟩) n n) l := by
  subst hn
  subst hcs
  refine ⟨_, l.length, rfl, Nat.le_refl _, by unfold maxLen; omega, fun _ => ⟨_, 0, rfl, fun i hi => ?_⟩⟩
  rw [Nat.zero_add, World.cell?_alloc_mark w _ e fr]
  simpa using bc_at l i hi

theorem text_any2 (s : ByteArray) (l : List UInt8) (hl : textB s.data.toList = l) (n : Nat) (hn : l.length = n) (hs : s.size ≤ 140737488355296) (w : World) (ht : Tab w) :
    Calls Tryd.prog 9 #[.string s] w fun e w' => ∃ p c, e = .returned (.slice p n c) ∧ Row w' (.slice p n c) l ∧ Below w.heap.size w w' := by
  subst hn
  subst hl
  exact (text_any s hs w ht).mono fun e w' ⟨v, he, ho, hb⟩ => by
    obtain ⟨p, c, hv, -⟩ := id ho.row
    subst hv
    exact ⟨p, c, he, ho.row, hb⟩

set_option maxHeartbeats 2000000 in
set_option maxRecDepth 100000 in
theorem known_any (w : World) (hg : Glob w) :
    Calls Tryd.prog 16 #[] w fun e w' => e = .returned (.bool true) ∧ Below w.heap.size w w' := by
  have HG := Lib.hid hg
  have ht := text_takes [97, 98] (by simp) []
  rw [List.append_nil, textB_ab] at ht
  have HT := Lib.hid ht
  have HR := Lib.hid (Row.lit w 5 [50, 59, 97, 98] #[.int .u8 50, .int .u8 59, .int .u8 97, .int .u8 98] (4, 5) rfl 4 rfl (by omega))
  clear hg ht
  have kc := fun (w : World) (C : Array Value) (n c : Nat) => Lib.run_convert_bytes_const (P := Tryd.prog) w 22 5 C n c Tryd.underlying22 Tryd.underlying5
  go_enter Tryd.func16, Tryd.ntmps16
  go_wp2_with fail
  refine (new_any _ _ (by simp) _ HR.out).mono ?_
  rintro e w1 ⟨r, rfl, hr0, hr1, hrd, hb1⟩
  have hB1 : Hid (Below w.heap.size w w1) := ((Below.refl _ w).alloc (Nat.le_refl _) _).trans (hb1.mono (by simp))
  have hr : w.heap.size ≤ r := by simp at hr0; omega
  have HRD := Lib.hid hrd
  clear hr0 hr1 hb1 hrd
  go_wp2_with fail
  refine (rtext_any r _ (by simp) w1 HRD.out (HG.out.below hB1.out)).mono ?_
  rintro e w2 ⟨rfl, hrd, hk⟩
  rw [HT.out.1, HT.out.2.1]
  have hB2 : Hid (Below w.heap.size w w2) := hB1.out.trans (hk.below hB1.out.size hr)
  have HRD2 := Lib.hid hrd
  clear hrd hk
  go_wp2_with fail
  refine (text_any2 ⟨#[97, 98]⟩ [50, 59, 97, 98] textB_ab 4 rfl (by decide) w2 (HG.out.below hB2.out).1).mono ?_
  rintro e w3 ⟨p, c, rfl, hrow, hb3⟩
  have hconv := Row.convert hrow
  have hB3 : Hid (Below w.heap.size w w3) := hB2.out.trans (hb3.mono hB2.out.size)
  have HRD3 : Hid (Rd 48 w3 r (textRest [50, 59, 97, 98])) := by
    obtain ⟨v, h1, h2⟩ := HRD2.out
    exact ⟨v, (hb3.block r (Rd.cell h1).2.2).trans h1, h2.below hb3⟩
  clear hb3 hrow
  go_wp2_with fail
  refine (left_any r _ w3 HRD3.out).mono ?_
  rintro e w4 ⟨rfl, rfl⟩
  rw [HT.out.2.2]
  go_wp2_with fail
  go_ret
  exact ⟨rfl, hB3.out⟩
end Go.Proofs.YtnikbdabajoaaaaDoor
