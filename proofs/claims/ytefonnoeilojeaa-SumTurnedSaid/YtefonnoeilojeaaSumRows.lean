/-
  Proved: the walk of the law SumRows: how bytes are parted does not matter, so it answers true and changes nothing that was there. Conditions: the rows can be read.
-/
import Derived.Test.YtefonnoeilojeaaSumKnown
import Derived.LoopTactic
namespace Go.Proofs.Ytefonnoeilojeaa
open Go Go.RowKit SumMath NetMem

theorem info5 : (Try.prog.info? 5).map (fun i => (i.zero, i.size, i.bytes)) = some (some (.int .u8 0), 1, 1) := by kernel_rfl

def RelR (w : World) (ls : List (List UInt8)) (v i : Value) (wr : World) : Prop :=
  ∃ k : Nat, k ≤ ls.length ∧ i = .int .i64 k ∧ Own wr w.heap.size v (ls.take k).flatten ∧ Below w.heap.size w wr ∧ (ls.take k).flatten.length ≤ 1000

set_option maxHeartbeats 4000000 in
set_option maxRecDepth 100000 in
theorem rows_law (p : Option Addr) (c : Nat) (ls : List (List UInt8)) (w : World) (h : RowsAt w p ls) (hl : ls.length ≤ 9223372036854775807) (hbd : ∀ i (h : i < ls.length), ls[i].length ≤ 140737488351232) :
    Calls Try.prog 4 #[.slice p ls.length c] w fun e w' => e = .returned (.bool true) ∧ Below w.heap.size w w' := by
  obtain ⟨i0, hi, hz0, hz1, hz2⟩ := info_parts info5
  have HS := Lib.hid h
  have HLL := Lib.hid hl
  have HBD := Lib.hid hbd
  clear h hbd
  go_enter Try.func4, Try.ntmps4
  go_wp2_with fail
  go_loopw [3, 4] (fun v i wr => RelR w ls v i wr) (fun _ i _ => ls.length - (intOf i).toNat)
  case atStart => exact ⟨0, Nat.zero_le _, rfl, by rw [List.take_zero]; exact Own.nil _ _, Below.refl _ _, by simp⟩
  case round =>
    obtain ⟨k, hk, rfl, ho, hb, hlen⟩ := hrel
    obtain ⟨all, hall⟩ : ∃ all, all = (ls.take k).flatten := ⟨_, rfl⟩
    rw [← hall] at ho hlen
    have HALL := Lib.hid hall
    have HO := Lib.hid ho
    have HB := Lib.hid hb
    clear hall hb
    obtain ⟨p1, c1, rfl, -⟩ := id ho.row
    clear ho
    by_cases hlt : k < ls.length
    · obtain ⟨b, o, q, n, c2, hp, hc, hr⟩ := HS.out k hlt
      subst hp
      obtain ⟨l, hll⟩ : ∃ l, l = ls[k] := ⟨_, rfl⟩
      rw [← hll] at hr
      have HK := Lib.hid hll
      have HM := HBD.out k hlt
      rw [← hll] at HM
      obtain ⟨rfl, -, -, -⟩ := Row.nums hr
      have hcell : wr.cell? ⟨b, o + k, none⟩ = some (.slice q l.length c2) := by rw [HB.out.cell (p := ⟨b, o + k, none⟩) (lt_of_cell hc)]; exact hc
      have HR := Lib.hid (hr.below HB.out)
      clear hll hr hc
      by_cases h50 : 50 < k
      · go_wp2_with fail
        go_ret
        exact ⟨rfl, HB.out⟩
      · by_cases h1000 : 1000 < all.length + l.length
        · have h1000i : (1000 : Int) < (all.length : Int) + (l.length : Int) := by omega
          go_wp2_with fail
          all_goals
            go_ret
            exact ⟨rfl, HB.out⟩
        · have hsrc := Row.src (P := Try.prog) HR.out Try.underlying22
          have hlt2 := HO.out.lt
          go_wp2_with (at_builtin; refine wpList_append_bytes _ rfl _ _ 22 22 rfl 5 i0 Try.underlying22 hi hz0 hz1 hz2 w.heap.size _ _ rfl HO.out _ l rfl hsrc ?lim ?hB ?_)
          case lim => omega
          case hB => exact HB.out.size
          intro v' w' ho3 hg3 _
          have HO3 := Lib.hid ho3
          have HB3 := Lib.hid (HB.out.grown hg3 HB.out.size (fun k hk => (hlt2 k hk).1))
          clear ho3 hg3 hlt2 hsrc
          go_wp2_with fail
          refine ⟨⟨k + 1, by omega, by go_num, ?_, HB3.out, ?_⟩, by simp [intOf]; omega⟩
          · rw [take_flat ls k hlt, ← HK.out, ← HALL.out]; exact HO3.out
          · rw [take_flat ls k hlt, ← HK.out, ← HALL.out, List.length_append]; omega
    · obtain rfl : k = ls.length := by omega
      have ha := HALL.out
      rw [List.take_length] at ha
      have HA := Lib.hid ha
      have HRA := Lib.hid HO.out.row
      clear ha
      have hrows : RowsAt wr p ls := fun i hi => by
        obtain ⟨b, o, q, n, c2, hp, hc, hr⟩ := HS.out i hi
        exact ⟨b, o, q, n, c2, hp, by rw [HB.out.cell (p := ⟨b, o + i, none⟩) (lt_of_cell hc)]; exact hc, hr.below HB.out⟩
      have HRS := Lib.hid hrows
      clear hrows
      go_wp2_with fail
      refine (of_any p c ls wr HRS.out HLL.out).mono ?_
      rintro e w1 ⟨rfl, rfl⟩
      rw [← HA.out]
      obtain ⟨z, hz⟩ : ∃ z : Int, z = (sumOf all : Nat) := ⟨_, rfl⟩
      rw [← hz]
      have HZ := Lib.hid hz
      have HRL := Lib.hid (RowsAt.lit wr 22 _ _ _ _ HRA.out wr.heap.size rfl)
      have HBL := Lib.hid (HB.out.alloc HB.out.size (.cells #[.slice p1 all.length c1] 22))
      clear hz
      go_wp2_with fail
      refine (of_one _ _ all _ HRL.out).mono ?_
      rintro e w2 ⟨rfl, rfl⟩
      rw [← HZ.out]
      go_wp2_with fail
      refine (known_any _).mono ?_
      rintro e w3 ⟨rfl, hb3⟩
      have HB3 := Lib.hid (HBL.out.trans (hb3.mono HBL.out.size))
      clear hb3
      go_wp2_with fail
      go_ret
      exact ⟨rfl, HB3.out⟩
end Go.Proofs.Ytefonnoeilojeaa
