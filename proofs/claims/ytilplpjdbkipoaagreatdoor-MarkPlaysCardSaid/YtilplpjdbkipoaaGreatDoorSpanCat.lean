/-
  Proved: slices.Grow at a nil slice, slices.Concat of rows that can be read, a span's head. Conditions: one byte at least and a million at most; a tag below 2^32.
-/
import Derived.Test.YtilplpjdbkipoaaGreatDoorSumB
import Derived.Test.YtilplpjdbkipoaaGreatDoorSpanMath
import Derived.Test.YtilplpjdbkipoaaGreatDoorRows
import Derived.Lib.AppendZeros
namespace Go.Proofs.YtilplpjdbkipoaaGreatDoor
open Go Go.RowKit SumMath NetMem SpanMath

theorem infoB : (Tryz.prog.info? 5).map (fun i => (i.zero, i.size, i.bytes)) = some (some (.int .u8 0), 1, 1) := by kernel_rfl

/-- Zeros that were made, none of them told. -/
theorem Own.room (w : World) (e : TypeId) (cs : Array Value) (cap : Nat) (hs : cs.size = cap) (hm : cap ≤ maxLen) : Own (w.alloc (.cells cs e)) w.heap.size (.slice (some ⟨w.heap.size, 0, none⟩) 0 cap) [] :=
  Own.made w e [] cap (by simp) hm cs hs (fun j h => by simp at h) _ (Nat.le_refl _)

set_option maxHeartbeats 1000000 in
set_option maxRecDepth 100000 in
theorem grow_nil (n : Nat) (h1 : 1 ≤ n) (h2 : n ≤ 1000000) (w : World) :
    Calls Tryz.prog 63 #[.slice none 0 0, .int .i64 (n : Int)] w fun e w' => ∃ v, e = .returned v ∧ Own w' w.heap.size v [] ∧ Below w.heap.size w w' := by
  obtain ⟨i0, hi, hz0, hz1, hz2⟩ := info_parts infoB
  have hr := Lib.run_append_nil_zeros (P := Tryz.prog) w 56 3 56 5 i0 (.int .u8 0) .i64 .i64 Tryz.underlying56 Tryz.underlying3 hi hz0 n (by omega) (by omega) (by omega) (by rw [hz2]; omega)
  have hge := grownCap_ge w n 0 5
  have hle : grownCap w n 0 5 ≤ maxLen := grownCap_le_maxLen w n 0 5 (by unfold maxLen; omega)
  obtain ⟨cap, hcap⟩ : ∃ cap, cap = grownCap w n 0 5 := ⟨_, rfl⟩
  rw [← hcap] at hr hge hle
  obtain ⟨cs, hcs⟩ : ∃ cs, cs = Builtin.zeroCells (Value.int .u8 0).cells n ++ Builtin.zeroCells (Value.int .u8 0).cells (cap - n) := ⟨_, rfl⟩
  have hsz : cs.size = cap := by
    have hz1 : (Value.int IntKind.u8 0).cells.size = 1 := rfl
    rw [hcs]; simp only [Array.size_append, size_zeroCells, hz1]; omega
  rw [← hcs] at hr
  have HO := Lib.hid (Own.room w.drew 5 cs cap hsz hle)
  have HB := Lib.hid (show Below w.heap.size w (w.drew.alloc (.cells cs 5)) from ((Below.refl _ w).drew).alloc (Nat.le_refl _) _)
  have HR := Lib.hid hr
  have hp : (0 : Int) < (n : Int) := by omega
  have hq : (n : Int) ≤ 1000000 := by omega
  have hc0 : (0 : Int) ≤ (cap : Int) := by omega
  clear hr hcs hcap hsz hi hz0 hz1 hz2 hge hle h1 h2
  go_enter Tryz.func63, Tryz.ntmps63
  go_wp2_with (at_builtin; refine Lib.wpList_append_run _ rfl _ _ _ _ rfl _ _ rfl rfl _ _ HR.out ?_)
  go_wp2_with fail
  go_ret
  exact ⟨_, rfl, HO.out, HB.out⟩

theorem RowsAt.below {w w' : World} {p : Option Addr} {ls : List (List UInt8)} (h : RowsAt w p ls) (hb : Below w.heap.size w w') : RowsAt w' p ls := fun i hi => by
  obtain ⟨b, o, q, n, c, hp, hc, hr⟩ := h i hi
  exact ⟨b, o, q, n, c, hp, by rw [hb.cell (p := ⟨b, o + i, none⟩) (lt_of_cell hc)]; exact hc, hr.below hb⟩
theorem flat_le (ls : List (List UInt8)) (k : Nat) : (ls.take k).flatten.length ≤ ls.flatten.length := by
  conv => rhs; rw [← List.take_append_drop k ls, List.flatten_append, List.length_append]
  omega

def RelC1 (ls : List (List UInt8)) (w : World) (v i : Value) (wr : World) : Prop :=
  ∃ k : Nat, k ≤ ls.length ∧ v = .int .i64 ((ls.take k).flatten.length : Int) ∧ i = .int .i64 (k : Int) ∧ w = wr
def RelC2 (ls : List (List UInt8)) (w : World) (v i : Value) (wr : World) : Prop :=
  ∃ k : Nat, k ≤ ls.length ∧ Own wr w.heap.size v (ls.take k).flatten ∧ i = .int .i64 (k : Int) ∧ Below w.heap.size w wr

set_option maxHeartbeats 2000000 in
set_option maxRecDepth 100000 in
theorem concat_any (p : Option Addr) (c : Nat) (ls : List (List UInt8)) (w : World) (h : RowsAt w p ls) (hl : ls.length ≤ 1000000) (h1 : 1 ≤ ls.flatten.length) (h2 : ls.flatten.length ≤ 1000000) :
    Calls Tryz.prog 40 #[.slice p ls.length c] w fun e w' => ∃ v, e = .returned v ∧ Own w' w.heap.size v ls.flatten ∧ Below w.heap.size w w' := by
  obtain ⟨i0, hi, hz0, hz1, hz2⟩ := info_parts infoB
  have HS := Lib.hid (And.intro h (And.intro h1 h2))
  have HI := Lib.hid (And.intro hi (And.intro hz0 (And.intro hz1 hz2)))
  clear h h1 h2 hi hz0 hz1 hz2
  go_enter Tryz.func40, Tryz.ntmps40
  go_wp2_with fail
  go_loopw [3, 11] (fun v i wr => RelC1 ls w v i wr) (fun _ i _ => ls.length - (intOf i).toNat)
  case atStart => exact ⟨0, by omega, rfl, rfl, rfl⟩
  case round =>
    obtain ⟨k, hk, rfl, rfl, rfl⟩ := hrel
    have hfl := flat_le ls k
    have hfm := HS.out.2.2
    obtain ⟨x, hx⟩ : ∃ x, x = (ls.take k).flatten.length := ⟨_, rfl⟩
    rw [← hx] at hfl ⊢
    have hx6 : x ≤ 1000000 := by omega
    have HX := Lib.hid hx
    clear hx hfl hfm
    by_cases hlt : k < ls.length
    · obtain ⟨b, o, q, n, c2, hp, hc, hr⟩ := HS.out.1 k hlt
      subst hp
      obtain ⟨rfl, -, -, -⟩ := Row.nums hr
      obtain ⟨y, hy⟩ : ∃ y, y = ls[k].length := ⟨_, rfl⟩
      rw [← hy] at hc
      have hxy : x + y = (ls.take (k + 1)).flatten.length := by rw [take_flat ls k hlt, List.length_append, ← HX.out, ← hy]
      have hfl2 := flat_le ls (k + 1)
      have hfm := HS.out.2.2
      have hy6 : x + y ≤ 1000000 := by omega
      have HY := Lib.hid hxy
      clear hr hy hxy hfl2 hfm
      go_wp2_with fail
      exact ⟨⟨k + 1, by omega, by rw [← HY.out]; go_num, by go_num, rfl⟩, by simp [intOf]; omega⟩
    · obtain rfl : k = ls.length := by omega
      have hx1 : 1 ≤ x := by rw [HX.out, List.take_length]; exact HS.out.2.1
      have HG := Lib.hid (grow_nil x hx1 hx6 w)
      clear HX
      go_wp2_with fail
      refine HG.out.mono ?_
      rintro e w1 ⟨v, rfl, ho, hb⟩
      have HO := Lib.hid (And.intro ho hb)
      clear ho hb HG
      go_wp2_with fail
      go_loopw [6, 27] (fun v i wr => RelC2 ls w v i wr) (fun _ i _ => ls.length - (intOf i).toNat)
      case atStart => exact ⟨0, by omega, HO.out.1, rfl, HO.out.2⟩
      case round =>
        obtain ⟨k, hk, ho, rfl, hb⟩ := hrel
        by_cases hlt : k < ls.length
        · obtain ⟨b, o, q, n, c2, hp, hc, hr⟩ := (HS.out.1.below hb) k hlt
          subst hp
          obtain ⟨i0', hi', hz0', hz1', hz2'⟩ : ∃ i, Tryz.prog.info? 5 = some i ∧ i.zero = some (.int .u8 0) ∧ i.size = 1 ∧ i.bytes = 1 := ⟨i0, HI.out⟩
          have hsrc := Row.src (P := Tryz.prog) hr Tryz.underlying56
          have hfl2 := flat_le ls (k + 1)
          rw [take_flat ls k hlt, List.length_append] at hfl2
          have hfm := HS.out.2.2
          have HR := Lib.hid (And.intro ho (And.intro hb (And.intro hsrc (show (ls.take k).flatten.length + ls[k].length ≤ 140737488355328 by omega))))
          have HH := Lib.hid (And.intro hi' (And.intro hz0' (And.intro hz1' hz2')))
          clear ho hb hsrc hr hfl2 hfm hi' hz0' hz1' hz2'
          go_wp2_with (at_builtin; refine wpList_append_bytes _ rfl _ _ 56 56 rfl 5 i0' Tryz.underlying56 HH.out.1 HH.out.2.1 HH.out.2.2.1 HH.out.2.2.2 w.heap.size _ _ rfl HR.out.1 _ _ rfl HR.out.2.2.1 HR.out.2.2.2 HR.out.2.1.size ?_)
          intro v' w' ho3 hg3 hnil
          have HB := Lib.hid (And.intro ho3 (HR.out.2.1.grown hg3 HR.out.2.1.size (fun k hk => (HR.out.1.lt k hk).1)))
          clear ho3 hg3 hnil
          go_wp2_with fail
          exact ⟨⟨k + 1, by omega, by rw [take_flat ls k hlt]; exact HB.out.1, by go_num, HB.out.2⟩, by simp [intOf]; omega⟩
        · obtain rfl : k = ls.length := by omega
          rw [List.take_length] at ho
          have HB := Lib.hid (And.intro ho hb)
          clear ho hb
          go_wp2_with fail
          go_ret
          exact ⟨_, rfl, HB.out.1, HB.out.2⟩

/-- A list of four rows that a literal has just made. -/
theorem RowsAt.four (w : World) (e : TypeId) (q1 q2 q3 q4 : Option Addr) (n1 n2 n3 n4 c1 c2 c3 c4 : Nat) (l1 l2 l3 l4 : List UInt8) (h1 : Row w (.slice q1 n1 c1) l1) (h2 : Row w (.slice q2 n2 c2) l2) (h3 : Row w (.slice q3 n3 c3) l3) (h4 : Row w (.slice q4 n4 c4) l4) :
    RowsAt (w.alloc (.cells #[.slice q1 n1 c1, .slice q2 n2 c2, .slice q3 n3 c3, .slice q4 n4 c4] e)) (some ⟨w.heap.size, 0, none⟩) [l1, l2, l3, l4] := by
  have hb : Below w.heap.size w (w.alloc (.cells #[.slice q1 n1 c1, .slice q2 n2 c2, .slice q3 n3 c3, .slice q4 n4 c4] e)) := (Below.refl _ w).alloc (Nat.le_refl _) _
  intro i hi
  match i, hi with
  | 0, _ => exact ⟨_, 0, q1, n1, c1, rfl, by rw [new_cell]; rfl, h1.below hb⟩
  | 1, _ => exact ⟨_, 0, q2, n2, c2, rfl, by rw [new_cell]; rfl, h2.below hb⟩
  | 2, _ => exact ⟨_, 0, q3, n3, c3, rfl, by rw [new_cell]; rfl, h3.below hb⟩
  | 3, _ => exact ⟨_, 0, q4, n4, c4, rfl, by rw [new_cell]; rfl, h4.below hb⟩

theorem headB_flat (tag : Nat) (b : List UInt8) : [fourB tag, fourB b.length, fourB (sumOf b), fourB tag].flatten = headB tag b := by simp [headB]

set_option maxHeartbeats 2000000 in
set_option maxRecDepth 100000 in
theorem headOf_any (tag : Nat) (ht : tag < 4294967296) (p : Option Addr) (c : Nat) (l : List UInt8) (w : World) (h : Row w (.slice p l.length c) l) (hl : l.length < 4294967296) :
    Calls Tryz.prog 47 #[.int .u32 (tag : Int), .slice p l.length c] w fun e w' => ∃ v, e = .returned v ∧ Own w' w.heap.size v (headB tag l) ∧ Below w.heap.size w w' := by
  have H0 := Lib.hid (And.intro h (And.intro ht hl))
  have hl0 : (0 : Int) ≤ (l.length : Int) := by omega
  have hl1 : (l.length : Int) < 4294967296 := by omega
  clear h ht hl
  go_enter Tryz.func47, Tryz.ntmps47
  go_wp2_with fail
  refine (four_any tag H0.out.2.1 w).mono ?_
  rintro e w1 ⟨p1, c1, rfl, hr1, hb1⟩
  have H1 := Lib.hid (And.intro hr1 hb1)
  clear hr1 hb1
  go_wp2_with fail
  refine (four_any l.length H0.out.2.2 w1).mono ?_
  rintro e w2 ⟨p2, c2, rfl, hr2, hb2⟩
  have H2 := Lib.hid (And.intro (H1.out.1.below hb2) (And.intro hr2 (H1.out.2.trans (hb2.mono H1.out.2.size))))
  clear hr2 hb2
  go_wp2_with fail
  have hr3 := H0.out.1.below H2.out.2.2
  have HR3 := Lib.hid (RowsAt.lit w2 56 p l.length c l hr3 w2.heap.size rfl)
  clear hr3
  refine (of_one _ _ l _ HR3.out).mono ?_
  rintro e w3 ⟨rfl, rfl⟩
  go_wp2_with fail
  have hb3 : Below w2.heap.size w2 (w2.alloc (.cells #[.slice p l.length c] 56)) := (Below.refl _ w2).alloc (Nat.le_refl _) _
  have H3 := Lib.hid (And.intro (H2.out.1.below hb3) (And.intro (H2.out.2.1.below hb3) (H2.out.2.2.trans (hb3.mono H2.out.2.2.size))))
  clear hb3
  refine (four_any (sumOf l) (sumOf_lt l) _).mono ?_
  rintro e w4 ⟨p4, c4, rfl, hr4, hb4⟩
  have H4 := Lib.hid (And.intro (H3.out.1.below hb4) (And.intro (H3.out.2.1.below hb4) (And.intro hr4 (H3.out.2.2.trans (hb4.mono H3.out.2.2.size)))))
  clear hr4 hb4
  go_wp2_with fail
  refine (four_any tag H0.out.2.1 w4).mono ?_
  rintro e w5 ⟨p5, c5, rfl, hr5, hb5⟩
  have H5 := Lib.hid (And.intro (RowsAt.four w5 56 _ _ _ _ _ _ _ _ _ _ _ _ _ _ _ _ (H4.out.1.below hb5) (H4.out.2.1.below hb5) (H4.out.2.2.1.below hb5) hr5) (H4.out.2.2.2.trans (hb5.mono H4.out.2.2.2.size)))
  clear hr5 hb5
  go_wp2_with fail
  refine (concat_any _ _ _ _ H5.out.1 (show 4 ≤ 1000000 by omega) (by rw [headB_flat, headB_length]; omega) (by rw [headB_flat, headB_length]; omega)).mono ?_
  rintro e w6 ⟨v, rfl, ho, hb6⟩
  have hb5 : Below w5.heap.size w5 (w5.alloc (.cells #[.slice p1 4 c1, .slice p2 4 c2, .slice p4 4 c4, .slice p5 4 c5] 56)) := (Below.refl _ w5).alloc (Nat.le_refl _) _
  have hb : Below w.heap.size w w6 := H5.out.2.trans ((hb5.trans (hb6.mono (by simp))).mono H5.out.2.size)
  rw [headB_flat] at ho
  have H6 := Lib.hid (And.intro (show Own w6 w.heap.size v (headB tag l) from ho.mono (by have := H5.out.2.size; simp; omega)) hb)
  clear ho hb hb5 hb6
  go_wp2_with fail
  go_ret
  exact ⟨_, rfl, H6.out.1, H6.out.2⟩
end Go.Proofs.YtilplpjdbkipoaaGreatDoor
