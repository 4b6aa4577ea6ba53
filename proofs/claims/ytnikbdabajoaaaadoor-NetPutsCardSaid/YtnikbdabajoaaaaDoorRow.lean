/-
  Proved: the walk of the law NetRow: texts put one behind the other are read one by one, so it answers true and changes nothing that was there. Conditions: the strings can be read; the library's table and its two sentinel errors read as laid.
-/
import Derived.Test.YtnikbdabajoaaaaDoorKnown
import Derived.LoopTactic
namespace Go.Proofs.YtnikbdabajoaaaaDoor
open Go Go.Shelf Go.RowKit NetMath NetMem

/-- Texts' bytes, one behind the other. -/
def cat (ss : List ByteArray) : List UInt8 := ss.flatMap fun s => textB s.data.toList

theorem cat_snoc (ss : List ByteArray) (k : Nat) (h : k < ss.length) : cat (ss.take (k + 1)) = cat (ss.take k) ++ textB ss[k].data.toList := by
  unfold cat
  rw [List.take_succ_eq_append_getElem h, List.flatMap_append]
  simp
theorem cat_drop (ss : List ByteArray) (k : Nat) (h : k < ss.length) : cat (ss.drop k) = textB ss[k].data.toList ++ cat (ss.drop (k + 1)) := by
  unfold cat
  rw [List.drop_eq_getElem_cons h, List.flatMap_cons]

theorem textB_len (l : List UInt8) (h : l.length ≤ 9223372036854775807) : (textB l).length ≤ 21 + l.length := by
  have := numB_len (l.length : Int) ⟨by omega, by omega⟩
  simp [textB]; omega

/-- A slice of strings that can be read. -/
def Strs (w : World) (p : Option Addr) (ss : List ByteArray) : Prop := ∀ i (h : i < ss.length), ∃ b o, p = some ⟨b, o, none⟩ ∧ w.cell? ⟨b, o + i, none⟩ = some (.string ss[i])

def Rel1 (w : World) (ss : List ByteArray) (v i : Value) (wr : World) : Prop :=
  ∃ k : Nat, k ≤ ss.length ∧ i = .int .i64 k ∧ Own wr w.heap.size v (cat (ss.take k)) ∧ Below w.heap.size w wr ∧ (cat (ss.take k)).length ≤ 200 * k
def Rel2 (w : World) (ss : List ByteArray) (r : Nat) (i : Value) (wr : World) : Prop :=
  ∃ k : Nat, k ≤ ss.length ∧ i = .int .i64 k ∧ Rd 48 wr r (cat (ss.drop k)) ∧ Below w.heap.size w wr ∧ (cat (ss.drop k)).length ≤ 200 * ss.length

set_option maxHeartbeats 4000000 in
set_option maxRecDepth 100000 in
theorem row_law (p : Option Addr) (c : Nat) (ss : List ByteArray) (w : World) (hs : Strs w p ss) (hg : Glob w) :
    Calls Tryd.prog 6 #[.slice p ss.length c] w fun e w' => e = .returned (.bool true) ∧ Below w.heap.size w w' := by
  have HG := Lib.hid hg
  have HS := Lib.hid hs
  clear hg hs
  by_cases h20 : 20 < ss.length
  · go_enter Tryd.func6, Tryd.ntmps6
    go_wp2_with fail
    go_ret
    exact ⟨rfl, Below.refl _ _⟩
  · obtain ⟨i0, hi, hz0, hz1, hz2⟩ := info_parts info5
    go_enter Tryd.func6, Tryd.ntmps6
    go_wp2_with fail
    go_loopw [3, 4] (fun v i wr => Rel1 w ss v i wr) (fun _ i _ => ss.length - (intOf i).toNat)
    case atStart => exact ⟨0, Nat.zero_le _, rfl, by rw [List.take_zero]; exact Own.nil _ _, Below.refl _ _, by simp [cat]⟩
    case round =>
      obtain ⟨k, hk, rfl, ho, hb, hlen⟩ := hrel
      by_cases hlt : k < ss.length
      · obtain ⟨b, o, hp, hc⟩ := HS.out k hlt
        subst hp
        obtain ⟨s, hs⟩ : ∃ s, s = ss[k] := ⟨_, rfl⟩
        rw [← hs] at hc
        have hcell : wr.cell? ⟨b, o + k, none⟩ = some (.string s) := by rw [hb.cell (p := ⟨b, o + k, none⟩) (lt_of_cell hc)]; exact hc
        have HSK := Lib.hid hs
        have HB := Lib.hid hb
        have HO := Lib.hid ho
        clear hs hc hb ho
        by_cases h100 : 100 < s.size
        · go_wp2_with fail
          go_ret
          exact ⟨rfl, HB.out⟩
        · have hsl := size_len s
          have htl := textB_len s.data.toList (by omega)
          have HT := Lib.hid (And.intro hsl htl)
          clear hsl htl
          go_wp2_with fail
          refine (text_any2 s _ rfl _ rfl (by omega) wr (HG.out.below HB.out).1).mono ?_
          rintro e w2 ⟨p2, c2, rfl, hrow, hb2⟩
          have HO2 := Lib.hid (HO.out.below hb2)
          have hsrc := Row.src (P := Tryd.prog) hrow Tryd.underlying22
          have hlt2 := HO2.out.lt
          have HB2 := Lib.hid (HB.out.trans (hb2.mono HB.out.size))
          clear hb2 hrow
          go_wp2_with (at_builtin; refine wpList_append_bytes _ rfl _ _ 22 22 rfl 5 i0 Tryd.underlying22 hi hz0 hz1 hz2 w.heap.size _ _ rfl HO2.out _ (textB s.data.toList) rfl hsrc ?lim ?hB ?_)
          case lim => have := HT.out; omega
          case hB => exact HB2.out.size
          intro v' w' ho3 hg3 _
          have HO3 := Lib.hid ho3
          have HB3 := Lib.hid (HB2.out.grown hg3 HB2.out.size (fun k hk => (hlt2 k hk).1))
          clear ho3 hg3 hlt2 hsrc
          go_wp2_with fail
          go_roundw
          case rel =>
            refine ⟨k + 1, by omega, by go_num, ?_, HB3.out, ?_⟩
            · rw [cat_snoc ss k hlt, ← HSK.out]; exact HO3.out
            · rw [cat_snoc ss k hlt, ← HSK.out, List.length_append]; have := HT.out; omega
          case measure => simp [intOf]; omega
      · obtain rfl : k = ss.length := by omega
        rw [List.take_length] at ho hlen
        have HB := Lib.hid hb
        have HR := Lib.hid ho.row
        clear hb ho
        go_wp2_with fail
        refine (new_any _ _ (by omega) wr HR.out).mono ?_
        rintro e w1 ⟨r, rfl, hr0, hr1, hrd, hb1⟩
        have HB1 := Lib.hid (HB.out.trans (hb1.mono HB.out.size))
        have HRD := Lib.hid hrd
        have hr : w.heap.size ≤ r := Nat.le_trans HB.out.size hr0
        clear hr0 hr1 hb1 hrd
        go_wp2_with fail
        go_loopw [6] (fun i wr => Rel2 w ss r i wr) (fun i _ => ss.length - (intOf i).toNat)
        case atStart => exact ⟨0, Nat.zero_le _, rfl, by rw [List.drop_zero]; exact HRD.out, HB1.out, by rw [List.drop_zero]; exact hlen⟩
        case round =>
          obtain ⟨k, hk, rfl, hrd, hb, hlen⟩ := hrel
          by_cases hlt : k < ss.length
          · obtain ⟨b, o, hp, hc⟩ := HS.out k hlt
            subst hp
            obtain ⟨s, hs⟩ : ∃ s, s = ss[k] := ⟨_, rfl⟩
            rw [← hs] at hc
            have hcd := cat_drop ss k hlt
            rw [← hs] at hcd
            have hlen2 : (cat (ss.drop k)).length ≤ 140737488355328 := by omega
            have hsl : s.data.toList.length ≤ 9223372036854775807 := by
              rw [hcd] at hlen2
              have : (textB s.data.toList).length ≤ 140737488355328 := by rw [List.length_append] at hlen2; omega
              simp [textB] at this ⊢; omega
            have ht := text_takes s.data.toList hsl (cat (ss.drop (k + 1)))
            rw [← hcd] at ht
            have hcc := hc
            have hblt := lt_of_cell hc
            have HT := Lib.hid ht
            have HB := Lib.hid hb
            have HRD := Lib.hid hrd
            have HC := Lib.hid hc
            have HCD := Lib.hid hcd
            have HLEN := Lib.hid hlen
            clear hs hcd hlen hb hrd hcc hc ht
            go_wp2_with fail
            refine (rtext_any r _ hlen2 _ HRD.out (HG.out.below HB.out)).mono ?_
            rintro e w2 ⟨rfl, hrd2, hk2⟩
            rw [HT.out.1, HT.out.2.1]
            have hb2 := HB.out.trans (hk2.below HB.out.size hr)
            have hcell : w2.cell? ⟨b, o + k, none⟩ = some (.string s) := by rw [hb2.cell (p := ⟨b, o + k, none⟩) hblt]; exact HC.out
            have HB2 := Lib.hid hb2
            have HRD2 := Lib.hid hrd2
            clear hb2 hrd2 hk2
            go_wp2_with fail
            go_roundw
            case rel =>
              refine ⟨k + 1, by omega, by go_num, ?_, HB2.out, ?_⟩
              · have := HRD2.out; rw [HT.out.2.2] at this; exact this
              · have := HLEN.out
                rw [HCD.out, List.length_append] at this; omega
            case measure => simp [intOf]; omega
          · obtain rfl : k = ss.length := by omega
            rw [List.drop_length] at hrd
            have HB := Lib.hid hb
            have HRD := Lib.hid hrd
            clear hb hrd hlen
            go_wp2_with fail
            refine (left_any r _ _ HRD.out).mono ?_
            rintro e w2 ⟨rfl, rfl⟩
            rw [show (cat []).length = 0 from rfl]
            go_wp2_with fail
            refine (known_any _ (HG.out.below HB.out)).mono ?_
            rintro e w3 ⟨rfl, hb3⟩
            have HB3 := Lib.hid (HB.out.trans (hb3.mono HB.out.size))
            clear hb3
            go_wp2_with fail
            go_ret
            exact ⟨rfl, HB3.out⟩
end Go.Proofs.YtnikbdabajoaaaaDoor
