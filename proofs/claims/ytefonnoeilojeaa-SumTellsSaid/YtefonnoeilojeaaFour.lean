/-
  Proved: four bytes of a number, a number of four bytes, in the program and in the statements' own package. Conditions: the number is below 2^32; the bytes can be read.
-/
import Derived.Test.YtefonnoeilojeaaOf
import Derived.BigQuiet
namespace Go.Proofs.Ytefonnoeilojeaa
open Go Go.RowKit SumMath NetMem

/-- A slice that a literal has just made. -/
theorem Row.lit (w : World) (e : TypeId) (l : List UInt8) (cs : Array Value) (fr : Nat × Nat) (hcs : cs = (Lib.byteCells l).toArray) (n : Nat) (hn : n = l.length) (hm : n ≤ 1000) : Row (w.alloc (.cells cs e fr)) (.slice (some ⟨w.heap.size, 0, none⟩) n n) l := by
  subst hn
  subst hcs
  refine ⟨_, l.length, rfl, Nat.le_refl _, by unfold maxLen; omega, fun _ => ⟨_, 0, rfl, fun i hi => ?_⟩⟩
  rw [Nat.zero_add, World.cell?_alloc_mark w _ e fr]
  simpa using bc_at l i hi
theorem or_add (i : Nat) (x y : Nat) (a b : Int) (ha : a = (x : Int)) (hb : b = (y : Int)) (hx : x % 2 ^ i = 0) (hy : y < 2 ^ i) (h1 : x < 4294967296) (h2 : y < 4294967296) : bits .or .u32 a b = ((x + y : Nat) : Int) := by
  subst ha; subst hb
  rw [u32_or_nat x y h1 h2, nat_join i x y hx hy]
theorem four_join (c0 c1 c2 c3 : UInt8) : bits .or .u32 (bits .or .u32 (bits .or .u32 ((c0.toNat : Int) * 16777216) ((c1.toNat : Int) * 65536)) ((c2.toNat : Int) * 256)) (c3.toNat : Int) = ((c0.toNat * 16777216 + c1.toNat * 65536 + c2.toNat * 256 + c3.toNat : Nat) : Int) := by
  have h0 := c0.toNat_lt; have h1 := c1.toNat_lt; have h2 := c2.toNat_lt; have h3 := c3.toNat_lt
  rw [or_add 24 (c0.toNat * 16777216) (c1.toNat * 65536) ((c0.toNat : Int) * 16777216) ((c1.toNat : Int) * 65536) (by omega) (by omega) (by omega) (by omega) (by omega) (by omega),
    or_add 16 (c0.toNat * 16777216 + c1.toNat * 65536) (c2.toNat * 256) ((c0.toNat * 16777216 + c1.toNat * 65536 : Nat) : Int) ((c2.toNat : Int) * 256) rfl (by omega) (by omega) (by omega) (by omega) (by omega),
    or_add 8 (c0.toNat * 16777216 + c1.toNat * 65536 + c2.toNat * 256) c3.toNat ((c0.toNat * 16777216 + c1.toNat * 65536 + c2.toNat * 256 : Nat) : Int) (c3.toNat : Int) rfl rfl (by omega) (by omega) (by omega) (by omega)]
theorem byte_of (n : Nat) (z : Int) (h : z = ((n % 256 : Nat) : Int)) : Value.int .u8 z = .int .u8 ((UInt8.ofNat n).toNat : Int) := by
  rw [h, UInt8.toNat_ofNat']
theorem four_cells (n : Nat) (hn : n < 4294967296) : #[Value.int .u8 ((n : Int) / 16777216), Value.int .u8 ((n : Int) / 65536 % 256), Value.int .u8 ((n : Int) / 256 % 256), Value.int .u8 ((n : Int) % 256)] = (Lib.byteCells (fourB n)).toArray := by
  simp only [fourB, Lib.byteCells, List.map_cons, List.map_nil]
  rw [byte_of (n / 16777216) ((n : Int) / 16777216) (by omega), byte_of (n / 65536) _ (show (n : Int) / 65536 % 256 = _ by omega), byte_of (n / 256) _ (show (n : Int) / 256 % 256 = _ by omega), byte_of n _ (show (n : Int) % 256 = _ by omega)]

set_option maxHeartbeats 2000000 in
set_option maxRecDepth 100000 in
theorem four_any (n : Nat) (hn : n < 4294967296) (w : World) :
    Calls Try.prog 9 #[.int .u32 (n : Int)] w fun e w' => ∃ p c, e = .returned (.slice p 4 c) ∧ Row w' (.slice p 4 c) (fourB n) ∧ Below w.heap.size w w' := by
  go_enter Try.func9, Try.ntmps9
  go_wp2_with fail
  go_ret
  refine ⟨_, _, rfl, ?_, (Below.refl _ w).alloc (Nat.le_refl _) _⟩
  exact Row.lit w 5 (fourB n) _ (0, 0) (four_cells n hn) 4 rfl (by omega)

set_option maxHeartbeats 2000000 in
set_option maxRecDepth 100000 in
theorem get_few (p : Option Addr) (c : Nat) (l : List UInt8) (w : World) (h : l.length < 4) :
    Calls Try.prog 11 #[.slice p l.length c] w fun e w' => e = .returned (.int .u32 0) ∧ w = w' := by
  go_enter Try.func11, Try.ntmps11
  go_wp2_with fail
  go_ret
  exact ⟨rfl, rfl⟩

set_option maxHeartbeats 2000000 in
set_option maxRecDepth 100000 in
theorem get_all (p : Option Addr) (c : Nat) (l : List UInt8) (w : World) (h : Row w (.slice p l.length c) l) (h4 : 4 ≤ l.length) :
    Calls Try.prog 11 #[.slice p l.length c] w fun e w' => e = .returned (.int .u32 (getB l : Nat)) ∧ Below w.heap.size w w' := by
  obtain ⟨-, h1, h2, hcc⟩ := Row.nums h
  obtain ⟨b, o, rfl, hc⟩ := hcc (by omega)
  unfold maxLen at h2
  obtain ⟨c0, c1, c2, c3, r, rfl⟩ : ∃ c0 c1 c2 c3 r, l = c0 :: c1 :: c2 :: c3 :: r := by
    match l, h4 with
    | c0 :: c1 :: c2 :: c3 :: r, _ => exact ⟨c0, c1, c2, c3, r, rfl⟩
  have d0 := hc 0 (by simp)
  have d1 := hc 1 (by simp)
  have d2 := hc 2 (by simp)
  have d3 := hc 3 (by simp)
  simp only [List.getElem_cons_zero, List.getElem_cons_succ, Nat.add_zero] at d0 d1 d2 d3
  obtain ⟨n, hn⟩ : ∃ n, n = (c0 :: c1 :: c2 :: c3 :: r).length := ⟨_, rfl⟩
  rw [← hn] at h1 h4 ⊢
  have b0 := c0.toNat_lt
  have b1 := c1.toNat_lt
  have b2 := c2.toNat_lt
  have b3 := c3.toNat_lt
  clear hc hn hcc h
  go_enter Try.func11, Try.ntmps11
  go_wp2_with fail
  go_quiet (fail)
  go_wp2
  go_ret
  exact ⟨by rw [four_join]; rfl, rfl, rfl, rfl, Nat.le_refl _, fun _ _ => rfl⟩
set_option maxHeartbeats 2000000 in
set_option maxRecDepth 100000 in
theorem reffour_any (n : Nat) (hn : n < 4294967296) (w : World) :
    Calls Try.prog 10 #[.int .u32 (n : Int)] w fun e w' => ∃ p c, e = .returned (.slice p 4 c) ∧ Row w' (.slice p 4 c) (fourB n) ∧ Below w.heap.size w w' := by
  go_enter Try.func10, Try.ntmps10
  go_wp2_with fail
  go_ret
  refine ⟨_, _, rfl, ?_, (Below.refl _ w).alloc (Nat.le_refl _) _⟩
  exact Row.lit w 5 (fourB n) _ (0, 0) (four_cells n hn) 4 rfl (by omega)

set_option maxHeartbeats 2000000 in
set_option maxRecDepth 100000 in
theorem refget_few (p : Option Addr) (c : Nat) (l : List UInt8) (w : World) (h : l.length < 4) :
    Calls Try.prog 12 #[.slice p l.length c] w fun e w' => e = .returned (.int .u32 0) ∧ w = w' := by
  go_enter Try.func12, Try.ntmps12
  go_wp2_with fail
  go_ret
  exact ⟨rfl, rfl⟩

set_option maxHeartbeats 2000000 in
set_option maxRecDepth 100000 in
theorem refget_all (p : Option Addr) (c : Nat) (l : List UInt8) (w : World) (h : Row w (.slice p l.length c) l) (h4 : 4 ≤ l.length) :
    Calls Try.prog 12 #[.slice p l.length c] w fun e w' => e = .returned (.int .u32 (getB l : Nat)) ∧ Below w.heap.size w w' := by
  obtain ⟨-, h1, h2, hcc⟩ := Row.nums h
  obtain ⟨b, o, rfl, hc⟩ := hcc (by omega)
  unfold maxLen at h2
  obtain ⟨c0, c1, c2, c3, r, rfl⟩ : ∃ c0 c1 c2 c3 r, l = c0 :: c1 :: c2 :: c3 :: r := by
    match l, h4 with
    | c0 :: c1 :: c2 :: c3 :: r, _ => exact ⟨c0, c1, c2, c3, r, rfl⟩
  have d0 := hc 0 (by simp)
  have d1 := hc 1 (by simp)
  have d2 := hc 2 (by simp)
  have d3 := hc 3 (by simp)
  simp only [List.getElem_cons_zero, List.getElem_cons_succ, Nat.add_zero] at d0 d1 d2 d3
  obtain ⟨n, hn⟩ : ∃ n, n = (c0 :: c1 :: c2 :: c3 :: r).length := ⟨_, rfl⟩
  rw [← hn] at h1 h4 ⊢
  have b0 := c0.toNat_lt
  have b1 := c1.toNat_lt
  have b2 := c2.toNat_lt
  have b3 := c3.toNat_lt
  clear hc hn hcc h
  go_enter Try.func12, Try.ntmps12
  go_wp2_with fail
  go_quiet (fail)
  go_wp2
  go_ret
  exact ⟨by rw [four_join]; rfl, rfl, rfl, rfl, Nat.le_refl _, fun _ _ => rfl⟩
end Go.Proofs.Ytefonnoeilojeaa
