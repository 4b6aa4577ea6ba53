/-
  Proved: sum.Of answers the rows' sum and changes nothing; four bytes of a number, a number of four bytes. Conditions: the rows can be read; numbers below 2^32.
-/
import Derived.Test.YtilplpjdbkipoaaGreatDoorEight
import Derived.Test.YtilplpjdbkipoaaGreatDoorBytes
import Derived.BigQuiet
namespace Go.Proofs.YtilplpjdbkipoaaGreatDoor
open Go Go.RowKit SumMath NetMem

/-- A slice of rows that can be read. -/
def RowsAt (w : World) (p : Option Addr) (ls : List (List UInt8)) : Prop :=
  ∀ i (h : i < ls.length), ∃ b o q n c, p = some ⟨b, o, none⟩ ∧ w.cell? ⟨b, o + i, none⟩ = some (.slice q n c) ∧ Row w (.slice q n c) ls[i]

def RelO (ls : List (List UInt8)) (w : World) (v i : Value) (wr : World) : Prop :=
  ∃ k : Nat, k ≤ ls.length ∧ v = .int .u32 (sumL ones (ls.take k).flatten : Nat) ∧ i = .int .i64 (k : Int) ∧ w = wr
def RelI (x : Nat) (l : List UInt8) (w : World) (v i : Value) (wr : World) : Prop :=
  ∃ k : Nat, k ≤ l.length ∧ v = .int .u32 (sumL x (l.take k) : Nat) ∧ i = .int .i64 (k : Int) ∧ w = wr

theorem take_flat (ls : List (List UInt8)) (k : Nat) (h : k < ls.length) : (ls.take (k + 1)).flatten = (ls.take k).flatten ++ ls[k] := by
  rw [List.take_succ_eq_append_getElem h, List.flatten_append]
  simp
theorem sumL_take (x : Nat) (l : List UInt8) (k : Nat) (h : k < l.length) : sumL x (l.take (k + 1)) = tapB (sumL x (l.take k)) l[k] := by
  rw [List.take_succ_eq_append_getElem h, sumL_append, sumL_cons]
  rfl
theorem ones_xor (x : Nat) (hx : x < 4294967296) : bits .xor .u32 (x : Int) 4294967295 = ((x ^^^ ones : Nat) : Int) := xor32 x ones hx (by decide)

set_option maxHeartbeats 2000000 in
set_option maxRecDepth 100000 in
theorem of_any (p : Option Addr) (c : Nat) (ls : List (List UInt8)) (w : World) (h : RowsAt w p ls) (hl : ls.length ≤ 9223372036854775807) :
    Calls Tryz.prog 70 #[.slice p ls.length c] w fun e w' => e = .returned (.int .u32 (sumOf ls.flatten : Nat)) ∧ w = w' := by
  have HS := Lib.hid h
  clear h
  go_enter Tryz.func70, Tryz.ntmps70
  go_wp2_with fail
  go_loopw [3, 10] (fun v i wr => RelO ls w v i wr) (fun _ i _ => ls.length - (intOf i).toNat)
  case atStart => exact ⟨0, by omega, rfl, rfl, rfl⟩
  case round =>
    obtain ⟨k, hk, rfl, rfl, rfl⟩ := hrel
    have hx0 : sumL ones (ls.take k).flatten < 4294967296 := sumL_lt _ (by decide)
    by_cases hlt : k < ls.length
    · obtain ⟨b, o, q, n, c2, hp, hc, hr⟩ := HS.out k hlt
      subst hp
      obtain ⟨x0, hx⟩ : ∃ x0, x0 = sumL ones (ls.take k).flatten := ⟨_, rfl⟩
      obtain ⟨l, hll⟩ : ∃ l, l = ls[k] := ⟨_, rfl⟩
      rw [← hx] at hx0 ⊢
      rw [← hll] at hr
      have HX := Lib.hid hx
      have HL := Lib.hid hll
      obtain ⟨rfl, h1, h2, hcc⟩ := Row.nums hr
      have HC := Lib.hid hcc
      have HM : l.length ≤ 9223372036854775807 := by unfold maxLen at h2; omega
      clear hx hll hr hcc h2
      go_wp2_with fail
      go_loopw [3, 16] (fun v i wr => RelI x0 l w v i wr) (fun _ i _ => l.length - (intOf i).toNat)
      case atStart => exact ⟨0, by omega, rfl, rfl, rfl⟩
      case round =>
        obtain ⟨j, hj, rfl, rfl, rfl⟩ := hrel
        have hy0 : sumL x0 (l.take j) < 4294967296 := sumL_lt _ hx0
        obtain ⟨y0, hy⟩ : ∃ y0, y0 = sumL x0 (l.take j) := ⟨_, rfl⟩
        rw [← hy] at hy0 ⊢
        have HY := Lib.hid hy
        clear hy
        by_cases hjt : j < l.length
        · obtain ⟨b2, o2, hq, hcell⟩ := HC.out (by omega)
          subst hq
          have hcj := hcell j hjt
          obtain ⟨d, hd⟩ : ∃ d, d = l[j] := ⟨_, rfl⟩
          rw [← hd] at hcj
          have hdl := d.toNat_lt
          have HD := Lib.hid hd
          clear hd hcell
          go_wp2_with fail
          refine (byte_any y0 hy0 d w).mono ?_
          rintro e w1 ⟨rfl, rfl⟩
          go_wp2_with fail
          exact ⟨⟨j + 1, by omega, by rw [sumL_take x0 l j hjt, ← HD.out, ← HY.out], by go_num, rfl⟩, by simp [intOf]; omega⟩
        · obtain rfl : j = l.length := by omega
          have hY := HY.out
          rw [List.take_length] at hY
          have HYY := Lib.hid hY
          clear hY
          go_wp2_with fail
          exact ⟨⟨k + 1, by omega, by rw [take_flat ls k hlt, sumL_append, ← HL.out, ← HX.out, ← HYY.out], by go_num, rfl⟩, by simp [intOf]; omega⟩
    · obtain rfl : k = ls.length := by omega
      rw [List.take_length] at hx0 ⊢
      go_wp2_with fail
      go_ret
      exact ⟨by rw [ones_xor _ hx0]; rfl, rfl⟩
/-- A slice that a literal has just made. -/
theorem Row.lit (w : World) (e : TypeId) (l : List UInt8) (cs : Array Value) (fr : Nat × Nat) (hcs : cs = (Lib.byteCells l).toArray) (n : Nat) (hn : n = l.length) (hm : n ≤ 1000) : Row (w.alloc (.cells cs e fr)) (.slice (some ⟨w.heap.size, 0, none⟩) n n) l := by
  subst hn
  subst hcs
  refine ⟨_, l.length, rfl, Nat.le_refl _, by unfold maxLen; omega, fun _ => ⟨_, 0, rfl, fun i hi => ?_⟩⟩
  rw [Nat.zero_add, World.cell?_alloc_mark w _ e fr]
  simpa using bc_at l i hi
theorem or_add (i : Nat) (x y : Nat) (a b : Int) (ha : a = (x : Int)) (hb : b = (y : Int)) (hx : x % 2 ^ i = 0) (hy : y < 2 ^ i) (h1 : x < 4294967296) (h2 : y < 4294967296) : bits .or .u32 a b = ((x + y : Nat) : Int) := by
  subst ha; subst hb
  rw [u32_or_nat x y h1 h2, nat_join i x y hx hy]
theorem four_join (c0 c1 c2 c3 : UInt8) : bits .or .u32 (bits .or .u32 (bits .or .u32 ((c0.toNat : Int) * 16777216) ((c1.toNat : Int) * 65536)) ((c2.toNat : Int) * 256)) (c3.toNat : Int) = ((c0.toNat * 16777216 + c1.toNat * 65536 + c2.toNat * 256 + c3.toNat : Nat) : Int) := by
  have h0 := c0.toNat_lt; have h1 := c1.toNat_lt; have h2 := c2.toNat_lt; have h3 := c3.toNat_lt
  rw [or_add 24 (c0.toNat * 16777216) (c1.toNat * 65536) ((c0.toNat : Int) * 16777216) ((c1.toNat : Int) * 65536) (by omega) (by omega) (by omega) (by omega) (by omega) (by omega),
    or_add 16 (c0.toNat * 16777216 + c1.toNat * 65536) (c2.toNat * 256) ((c0.toNat * 16777216 + c1.toNat * 65536 : Nat) : Int) ((c2.toNat : Int) * 256) rfl (by omega) (by omega) (by omega) (by omega) (by omega),
    or_add 8 (c0.toNat * 16777216 + c1.toNat * 65536 + c2.toNat * 256) c3.toNat ((c0.toNat * 16777216 + c1.toNat * 65536 + c2.toNat * 256 : Nat) : Int) (c3.toNat : Int) rfl rfl (by omega) (by omega) (by omega) (by omega)]
theorem byte_of (n : Nat) (z : Int) (h : z = ((n % 256 : Nat) : Int)) : Value.int .u8 z = .int .u8 ((UInt8.ofNat n).toNat : Int) := by
  rw [h, UInt8.toNat_ofNat']
theorem four_cells (n : Nat) (hn : n < 4294967296) : #[Value.int .u8 ((n : Int) / 16777216), Value.int .u8 ((n : Int) / 65536 % 256), Value.int .u8 ((n : Int) / 256 % 256), Value.int .u8 ((n : Int) % 256)] = (Lib.byteCells (fourB n)).toArray := by
  simp only [fourB, Lib.byteCells, List.map_cons, List.map_nil]
  rw [byte_of (n / 16777216) ((n : Int) / 16777216) (by omega), byte_of (n / 65536) _ (show (n : Int) / 65536 % 256 = _ by omega), byte_of (n / 256) _ (show (n : Int) / 256 % 256 = _ by omega), byte_of n _ (show (n : Int) % 256 = _ by omega)]

set_option maxHeartbeats 2000000 in
set_option maxRecDepth 100000 in
theorem four_any (n : Nat) (hn : n < 4294967296) (w : World) :
    Calls Tryz.prog 69 #[.int .u32 (n : Int)] w fun e w' => ∃ p c, e = .returned (.slice p 4 c) ∧ Row w' (.slice p 4 c) (fourB n) ∧ Below w.heap.size w w' := by
  go_enter Tryz.func69, Tryz.ntmps69
  go_wp2_with fail
  go_ret
  refine ⟨_, _, rfl, ?_, (Below.refl _ w).alloc (Nat.le_refl _) _⟩
  exact Row.lit w 5 (fourB n) _ (0, 0) (four_cells n hn) 4 rfl (by omega)

set_option maxHeartbeats 2000000 in
set_option maxRecDepth 100000 in
theorem get_few (p : Option Addr) (c : Nat) (l : List UInt8) (w : World) (h : l.length < 4) :
    Calls Tryz.prog 75 #[.slice p l.length c] w fun e w' => e = .returned (.int .u32 0) ∧ w = w' := by
  go_enter Tryz.func75, Tryz.ntmps75
  go_wp2_with fail
  go_ret
  exact ⟨rfl, rfl⟩

set_option maxHeartbeats 2000000 in
set_option maxRecDepth 100000 in
theorem get_all (p : Option Addr) (c : Nat) (l : List UInt8) (w : World) (h : Row w (.slice p l.length c) l) (h4 : 4 ≤ l.length) :
    Calls Tryz.prog 75 #[.slice p l.length c] w fun e w' => e = .returned (.int .u32 (getB l : Nat)) ∧ Below w.heap.size w w' := by
  obtain ⟨-, h1, h2, hcc⟩ := Row.nums h
  obtain ⟨b, o, rfl, hc⟩ := hcc (by omega)
  unfold maxLen at h2
  obtain ⟨c0, c1, c2, c3, r, rfl⟩ : ∃ c0 c1 c2 c3 r, l = c0 :: c1 :: c2 :: c3 :: r := by
    match l, h4 with
    | c0 :: c1 :: c2 :: c3 :: r, _ => exact ⟨c0, c1, c2, c3, r, rfl⟩
  have d0 := hc 0 (by simp)
  have d1 := hc 1 (by simp)
  have d2 := hc 2 (by simp)
  have d3 := hc 3 (by simp)
  simp only [List.getElem_cons_zero, List.getElem_cons_succ, Nat.add_zero] at d0 d1 d2 d3
  obtain ⟨n, hn⟩ : ∃ n, n = (c0 :: c1 :: c2 :: c3 :: r).length := ⟨_, rfl⟩
  rw [← hn] at h1 h4 ⊢
  have b0 := c0.toNat_lt
  have b1 := c1.toNat_lt
  have b2 := c2.toNat_lt
  have b3 := c3.toNat_lt
  clear hc hn hcc h
  go_enter Tryz.func75, Tryz.ntmps75
  go_wp2_with fail
  go_quiet (fail)
  go_wp2
  go_ret
  exact ⟨by rw [four_join]; rfl, rfl, rfl, rfl, Nat.le_refl _, fun _ _ => rfl⟩
/-- A list of one row that a literal has just made. -/
theorem RowsAt.lit (w : World) (e : TypeId) (q : Option Addr) (n c : Nat) (l : List UInt8) (h : Row w (.slice q n c) l) (k : Nat) (hk : k = w.heap.size) : RowsAt (w.alloc (.cells #[.slice q n c] e)) (some ⟨k, 0, none⟩) [l] := by
  subst hk
  intro i hi
  obtain rfl : i = 0 := by simpa using hi
  exact ⟨_, _, q, n, c, rfl, by rw [new_cell]; rfl, h.below ((Below.refl _ w).alloc (Nat.le_refl _) _)⟩
theorem flat_one (l : List UInt8) : [l].flatten = l := by simp

/-- Of one row, listed. -/
theorem of_one (p : Option Addr) (c : Nat) (l : List UInt8) (w : World) (h : RowsAt w p [l]) :
    Calls Tryz.prog 70 #[.slice p 1 c] w fun e w' => e = .returned (.int .u32 (sumOf l : Nat)) ∧ w = w' := by
  have := of_any p c [l] w h (by simp)
  rwa [flat_one] at this

end Go.Proofs.YtilplpjdbkipoaaGreatDoor
