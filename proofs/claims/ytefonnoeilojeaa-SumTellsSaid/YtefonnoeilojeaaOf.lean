/-
  Proved: sum.Of answers the rows' sum and changes nothing. Conditions: the rows can be read.
-/
import Derived.Test.YtefonnoeilojeaaEight
import Derived.Test.YtefonnoeilojeaaMem
namespace Go.Proofs.Ytefonnoeilojeaa
open Go Go.RowKit SumMath NetMem

theorem Row.nums {w : World} {p : Option Addr} {n cap : Nat} {l : List UInt8} (h : Row w (.slice p n cap) l) :
    n = l.length ∧ l.length ≤ cap ∧ cap ≤ maxLen ∧ (0 < cap → ∃ b o, p = some ⟨b, o, none⟩ ∧ ∀ i (h : i < l.length), w.cell? ⟨b, o + i, none⟩ = some (.int .u8 (l[i].toNat : Int))) := by
  obtain ⟨p', cap', hv, h1, h2, h3⟩ := h
  simp only [Value.slice.injEq] at hv
  obtain ⟨rfl, rfl, rfl⟩ := hv
  exact ⟨rfl, h1, h2, h3⟩

/-- A slice of rows that can be read. -/
def RowsAt (w : World) (p : Option Addr) (ls : List (List UInt8)) : Prop :=
  ∀ i (h : i < ls.length), ∃ b o q n c, p = some ⟨b, o, none⟩ ∧ w.cell? ⟨b, o + i, none⟩ = some (.slice q n c) ∧ Row w (.slice q n c) ls[i]

def RelO (ls : List (List UInt8)) (w : World) (v i : Value) (wr : World) : Prop :=
  ∃ k : Nat, k ≤ ls.length ∧ v = .int .u32 (sumL ones (ls.take k).flatten : Nat) ∧ i = .int .i64 (k : Int) ∧ w = wr
def RelI (x : Nat) (l : List UInt8) (w : World) (v i : Value) (wr : World) : Prop :=
  ∃ k : Nat, k ≤ l.length ∧ v = .int .u32 (sumL x (l.take k) : Nat) ∧ i = .int .i64 (k : Int) ∧ w = wr

theorem take_flat (ls : List (List UInt8)) (k : Nat) (h : k < ls.length) : (ls.take (k + 1)).flatten = (ls.take k).flatten ++ ls[k] := by
  rw [List.take_succ_eq_append_getElem h, List.flatten_append]
  simp
theorem sumL_take (x : Nat) (l : List UInt8) (k : Nat) (h : k < l.length) : sumL x (l.take (k + 1)) = tapB (sumL x (l.take k)) l[k] := by
  rw [List.take_succ_eq_append_getElem h, sumL_append, sumL_cons]
  rfl
theorem ones_xor (x : Nat) (hx : x < 4294967296) : bits .xor .u32 (x : Int) 4294967295 = ((x ^^^ ones : Nat) : Int) := xor32 x ones hx (by decide)

set_option maxHeartbeats 2000000 in
set_option maxRecDepth 100000 in
theorem of_any (p : Option Addr) (c : Nat) (ls : List (List UInt8)) (w : World) (h : RowsAt w p ls) (hl : ls.length ≤ 9223372036854775807) :
    Calls Try.prog 7 #[.slice p ls.length c] w fun e w' => e = .returned (.int .u32 (sumOf ls.flatten : Nat)) ∧ w = w' := by
  have HS := Lib.hid h
  clear h
  go_enter Try.func7, Try.ntmps7
  go_wp2_with fail
  go_loopw [3, 10] (fun v i wr => RelO ls w v i wr) (fun _ i _ => ls.length - (intOf i).toNat)
  case atStart => exact ⟨0, by omega, rfl, rfl, rfl⟩
  case round =>
    obtain ⟨k, hk, rfl, rfl, rfl⟩ := hrel
    have hx0 : sumL ones (ls.take k).flatten < 4294967296 := sumL_lt _ (by decide)
    by_cases hlt : k < ls.length
    · obtain ⟨b, o, q, n, c2, hp, hc, hr⟩ := HS.out k hlt
      subst hp
      obtain ⟨x0, hx⟩ : ∃ x0, x0 = sumL ones (ls.take k).flatten := ⟨_, rfl⟩
      obtain ⟨l, hll⟩ : ∃ l, l = ls[k] := ⟨_, rfl⟩
      rw [← hx] at hx0 ⊢
      rw [← hll] at hr
      have HX := Lib.hid hx
      have HL := Lib.hid hll
      obtain ⟨rfl, h1, h2, hcc⟩ := Row.nums hr
      have HC := Lib.hid hcc
      have HM : l.length ≤ 9223372036854775807 := by unfold maxLen at h2; omega
      clear hx hll hr hcc h2
      go_wp2_with fail
      go_loopw [3, 16] (fun v i wr => RelI x0 l w v i wr) (fun _ i _ => l.length - (intOf i).toNat)
      case atStart => exact ⟨0, by omega, rfl, rfl, rfl⟩
      case round =>
        obtain ⟨j, hj, rfl, rfl, rfl⟩ := hrel
        have hy0 : sumL x0 (l.take j) < 4294967296 := sumL_lt _ hx0
        obtain ⟨y0, hy⟩ : ∃ y0, y0 = sumL x0 (l.take j) := ⟨_, rfl⟩
        rw [← hy] at hy0 ⊢
        have HY := Lib.hid hy
        clear hy
        by_cases hjt : j < l.length
        · obtain ⟨b2, o2, hq, hcell⟩ := HC.out (by omega)
          subst hq
          have hcj := hcell j hjt
          obtain ⟨d, hd⟩ : ∃ d, d = l[j] := ⟨_, rfl⟩
          rw [← hd] at hcj
          have hdl := d.toNat_lt
          have HD := Lib.hid hd
          clear hd hcell
          go_wp2_with fail
          refine (byte_any y0 hy0 d w).mono ?_
          rintro e w1 ⟨rfl, rfl⟩
          go_wp2_with fail
          exact ⟨⟨j + 1, by omega, by rw [sumL_take x0 l j hjt, ← HD.out, ← HY.out], by go_num, rfl⟩, by simp [intOf]; omega⟩
        · obtain rfl : j = l.length := by omega
          have hY := HY.out
          rw [List.take_length] at hY
          have HYY := Lib.hid hY
          clear hY
          go_wp2_with fail
          exact ⟨⟨k + 1, by omega, by rw [take_flat ls k hlt, sumL_append, ← HL.out, ← HX.out, ← HYY.out], by go_num, rfl⟩, by simp [intOf]; omega⟩
    · obtain rfl : k = ls.length := by omega
      rw [List.take_length] at hx0 ⊢
      go_wp2_with fail
      go_ret
      exact ⟨by rw [ones_xor _ hx0]; rfl, rfl⟩
end Go.Proofs.Ytefonnoeilojeaa
