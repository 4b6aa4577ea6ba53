/-
  Proved: slices.Grow at a nil slice, slices.Concat of rows of api.Fun that can be read. Conditions: their elements fit into 2^47 bytes.
-/
import Derived.Test.YtbbopbbnhkcfdaaEnMem
import Derived.Test.YtbbopbbnhkcfdaaEnRows
import Derived.Lib.AppendZeros
namespace Go.Proofs.Ytbbopbbnhkcfdaa
open Go Go.RowKit EnMath

theorem infoF : (Try.prog.info? 47).map (fun i => (i.zero, i.size, i.bytes)) = some (some (.agg #[.string ByteArray.empty, .int .i64 0] : Value), 2, 24) := by kernel_rfl

set_option maxHeartbeats 1000000 in
set_option maxRecDepth 100000 in
theorem growF_nil (n : Nat) (h2 : n * 24 ≤ 140737488355328) (w : World) :
    Calls Try.prog 37 #[.slice none 0 0, .int .i64 (n : Int)] w fun e w' => ∃ v, e = .returned v ∧ w'.ownsRow w.heap.size 47 2 v 0 [] ∧ Below w.heap.size w w' := by
  rcases Nat.eq_zero_or_pos n with rfl | h1
  · have HO := Lib.hid (World.ownsRow_nil w w.heap.size 47 2)
    have HB := Lib.hid (Below.refl w.heap.size w)
    go_enter Try.func37, Try.ntmps37
    go_wp2_with fail
    go_ret
    exact ⟨_, rfl, HO.out, HB.out⟩
  · obtain ⟨i0, hi, hz0, hz1, hz2⟩ := info_parts infoF
    have hr := Lib.run_append_nil_zeros (P := Try.prog) w 24 3 24 47 i0 (.agg #[.string ByteArray.empty, .int .i64 0] : Value) .i64 .i64 Try.underlying24 Try.underlying3 hi hz0 n (by omega) (by omega) (by omega) (by rw [hz2]; omega)
    have hge := grownCap_ge w n 0 47
    have hle : grownCap w n 0 47 ≤ maxLen := grownCap_le_maxLen w n 0 47 (by unfold maxLen; omega)
    obtain ⟨cap, hcap⟩ : ∃ cap, cap = grownCap w n 0 47 := ⟨_, rfl⟩
    rw [← hcap] at hr hge hle
    obtain ⟨cs, hcs⟩ : ∃ cs, cs = Builtin.zeroCells (.agg #[.string ByteArray.empty, .int .i64 0] : Value).cells n ++ Builtin.zeroCells (.agg #[.string ByteArray.empty, .int .i64 0] : Value).cells (cap - n) := ⟨_, rfl⟩
    have hsz : cs.size = cap * 2 := by
      have hzc : (.agg #[.string ByteArray.empty, .int .i64 0] : Value).cells.size = 2 := rfl
      rw [hcs]; simp only [Array.size_append, size_zeroCells, hzc]; omega
    rw [← hcs] at hr
    have HO := Lib.hid (World.ownsRow_made (base := w.heap.size) (size := 2) (e := 47) w.drew cs cap (Nat.le_refl _) hle hsz)
    have HB := Lib.hid (show Below w.heap.size w (w.drew.alloc (.cells cs 47)) from ((Below.refl _ w).drew).alloc (Nat.le_refl _) _)
    have HR := Lib.hid hr
    have hp : (0 : Int) < (n : Int) := by omega
    have hq : (n : Int) ≤ 140737488355328 := by omega
    have hc0 : (0 : Int) ≤ (cap : Int) := by omega
    clear hr hcs hcap hsz hi hz0 hz1 hz2 hge hle h1 h2
    go_enter Try.func37, Try.ntmps37
    go_wp2_with (at_builtin; refine Lib.wpList_append_run _ rfl _ _ _ _ rfl _ _ rfl rfl _ _ HR.out ?_)
    go_wp2_with fail
    go_ret
    exact ⟨_, rfl, HO.out, HB.out⟩

def RelC1F (ls : List (List (ByteArray × Int))) (w : World) (v i : Value) (wr : World) : Prop :=
  ∃ k : Nat, k ≤ ls.length ∧ v = .int .i64 ((ls.take k).flatten.length : Int) ∧ i = .int .i64 (k : Int) ∧ w = wr
def RelC2F (ls : List (List (ByteArray × Int))) (w : World) (v i : Value) (wr : World) : Prop :=
  ∃ k : Nat, k ≤ ls.length ∧ wr.ownsRow w.heap.size 47 2 v (ls.take k).flatten.length ((ls.take k).flatten.flatMap fC) ∧ i = .int .i64 (k : Int) ∧ Below w.heap.size w wr

set_option maxHeartbeats 2000000 in
set_option maxRecDepth 100000 in
theorem catF_any (p : Option Addr) (c : Nat) (ls : List (List (ByteArray × Int))) (w : World) (h : CatAt 2 fC w p ls) (hl : ls.length ≤ 1000000) (h2 : ls.flatten.length * 24 ≤ 140737488355328) :
    Calls Try.prog 28 #[.slice p ls.length c] w fun e w' => ∃ v, e = .returned v ∧ Rd 2 fC w' v ls.flatten ∧ Below w.heap.size w w' := by
  obtain ⟨i0, hi, hz0, hz1, hz2⟩ := info_parts infoF
  have HS := Lib.hid (And.intro h h2)
  have HI := Lib.hid (And.intro hi (And.intro hz0 (And.intro hz1 hz2)))
  clear h h2 hi hz0 hz1 hz2
  go_enter Try.func28, Try.ntmps28
  go_wp2_with fail
  go_loopw [3, 11] (fun v i wr => RelC1F ls w v i wr) (fun _ i _ => ls.length - (intOf i).toNat)
  case atStart => exact ⟨0, by omega, rfl, rfl, rfl⟩
  case round =>
    obtain ⟨k, hk, rfl, rfl, rfl⟩ := hrel
    have hfl := en_flat_le ls k
    have hfm := HS.out.2
    obtain ⟨x, hx⟩ : ∃ x, x = (ls.take k).flatten.length := ⟨_, rfl⟩
    rw [← hx] at hfl ⊢
    have hx6 : x * 24 ≤ 140737488355328 := by omega
    have HX := Lib.hid hx
    clear hx hfl hfm
    by_cases hlt : k < ls.length
    · obtain ⟨b, o, v2, hp, hc, hr⟩ := HS.out.1 k hlt
      subst hp
      obtain ⟨q, c2, rfl⟩ := hr.shape
      obtain ⟨y, hy⟩ : ∃ y, y = ls[k].length := ⟨_, rfl⟩
      rw [← hy] at hc
      have hxy : x + y = (ls.take (k + 1)).flatten.length := by rw [en_take_flat ls k hlt, List.length_append, ← HX.out, ← hy]
      have hfl2 := en_flat_le ls (k + 1)
      have hfm := HS.out.2
      have hy6 : x + y ≤ 140737488355328 := by omega
      have hx7 : x ≤ 140737488355328 := by omega
      have HY := Lib.hid hxy
      clear hr hy hxy hfl2 hfm hx6
      go_wp2_with fail
      exact ⟨⟨k + 1, by omega, by rw [← HY.out]; go_num, by go_num, rfl⟩, by simp [intOf]; omega⟩
    · obtain rfl : k = ls.length := by omega
      have HG := Lib.hid (growF_nil x hx6 w)
      have hx7 : x ≤ 140737488355328 := by omega
      clear HX hx6
      go_wp2_with fail
      refine HG.out.mono ?_
      rintro e w1 ⟨v, rfl, ho, hb⟩
      have HO := Lib.hid (And.intro ho hb)
      clear ho hb HG
      go_wp2_with fail
      go_loopw [6, 27] (fun v i wr => RelC2F ls w v i wr) (fun _ i _ => ls.length - (intOf i).toNat)
      case atStart => exact ⟨0, by omega, HO.out.1, rfl, HO.out.2⟩
      case round =>
        obtain ⟨k, hk, ho, rfl, hb⟩ := hrel
        by_cases hlt : k < ls.length
        · obtain ⟨b, o, v2, hp, hc, hr⟩ := (HS.out.1.below hb) k hlt
          subst hp
          obtain ⟨i0', hi', hz0', hz1', hz2'⟩ : ∃ i, Try.prog.info? 47 = some i ∧ i.zero = some (.agg #[.string ByteArray.empty, .int .i64 0] : Value) ∧ i.size = 2 ∧ i.bytes = 24 := ⟨i0, HI.out⟩
          have hfl2 := en_flat_le ls (k + 1)
          rw [en_take_flat ls k hlt, List.length_append] at hfl2
          have hfm := HS.out.2
          have HR := Lib.hid (And.intro ho (And.intro hb (And.intro hr (show ((ls.take k).flatten.length + ls[k].length) * 24 ≤ 140737488355328 ∧ (ls.take k).flatten.length + ls[k].length ≤ maxLen by unfold maxLen; omega))))
          obtain ⟨J, hJ⟩ : ∃ J, (ls.take k).flatten ++ ls[k] = J := ⟨_, rfl⟩
          have HJ := Lib.hid hJ
          have HJ2 := Lib.hid ((en_take_flat ls k hlt).trans hJ)
          have HH := Lib.hid (And.intro hi' (And.intro hz0' (And.intro hz1' hz2')))
          obtain ⟨q, c2, rfl⟩ := hr.shape
          clear ho hb hr hfl2 hfm hi' hz0' hz1' hz2' hJ
          go_wp2_with (at_builtin; refine wpList_append_rd _ rfl _ _ 24 rfl 47 i0' _ 24 Try.underlying24 HH.out.1 HH.out.2.1 HH.out.2.2.1 HH.out.2.2.2 rfl fE w.heap.size _ _ _ rfl HR.out.1 _ rfl HR.out.2.2.1 HR.out.2.2.2.1 HR.out.2.2.2.2 HR.out.2.1.size _ HJ.out ?_)
          intro v' w' ho3 hg3
          have HB := Lib.hid (And.intro ho3 (HR.out.2.1.grown hg3 HR.out.2.1.size (fun k hk => (HR.out.1.lt k hk).1)))
          clear ho3 hg3
          go_wp2_with fail
          exact ⟨⟨k + 1, by omega, by rw [HJ2.out]; exact HB.out.1, by go_num, HB.out.2⟩, by simp [intOf]; omega⟩
        · obtain rfl : k = ls.length := by omega
          rw [List.take_length] at ho
          have HB := Lib.hid (And.intro (Rd.of_own fE ho) hb)
          clear ho hb
          go_wp2_with fail
          go_ret
          exact ⟨_, rfl, HB.out.1, HB.out.2⟩
end Go.Proofs.Ytbbopbbnhkcfdaa
