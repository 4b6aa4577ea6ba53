/-
  Proved: the walk of the law ParseOdd: it answers true and changes nothing that was there. Conditions: the lexer's table of signs lies in memory.
-/
import Derived.Test.YtakceggnadagmaaGreatDoorPj36
namespace Go.Proofs.YtakceggnadagmaaGreatDoor
open Go Go.RowKit GlyphMath LexMath TreeMath ParseMath

def oddL : List ByteArray := [⟨#[]⟩, ⟨#[97, 32, 38, 38]⟩, ⟨#[124, 32, 97]⟩, ⟨#[97, 59, 59, 32, 98]⟩, ⟨#[105, 102, 32, 97, 32, 116, 104, 101, 110, 32, 98, 59, 32, 102, 105]⟩, ⟨#[105, 102, 32, 97, 59, 32, 116, 104, 101, 110, 32, 102, 105]⟩, ⟨#[123, 32, 97, 32, 125]⟩, ⟨#[40, 32, 97]⟩, ⟨#[119, 104, 105, 108, 101, 32, 97, 59, 32, 100, 111, 32, 98]⟩, ⟨#[102, 111, 114, 32, 49, 32, 105, 110, 32, 97, 59, 32, 100, 111, 32, 98, 59, 32, 100, 111, 110, 101]⟩, ⟨#[102, 111, 114, 32, 105, 32, 97, 59, 32, 100, 111, 32, 98, 59, 32, 100, 111, 110, 101]⟩, ⟨#[99, 97, 115, 101, 32, 120, 32, 105, 110, 32, 97, 41, 32, 59, 59, 32, 101, 115, 97, 99]⟩, ⟨#[102, 40, 32, 97]⟩, ⟨#[102, 40, 41, 32, 97]⟩, ⟨#[116, 104, 101, 110]⟩, ⟨#[97, 32, 62, 32, 59, 32, 98]⟩, ⟨#[97, 32, 124, 32, 124, 32, 98]⟩, ⟨#[33, 32, 33, 32, 97]⟩, ⟨#[100, 111, 110, 101]⟩, ⟨#[40, 41]⟩]
def oddT (k : Nat) : ByteArray := oddL.getD k ⟨#[]⟩
def oddV : List Value := oddL.map .string
def atV : List Value := oddAt.map fun n : Nat => .int .i64 (n : Int)
def oddObj : Obj := .cells #[.string ⟨#[]⟩, .string ⟨#[97, 32, 38, 38]⟩, .string ⟨#[124, 32, 97]⟩, .string ⟨#[97, 59, 59, 32, 98]⟩, .string ⟨#[105, 102, 32, 97, 32, 116, 104, 101, 110, 32, 98, 59, 32, 102, 105]⟩, .string ⟨#[105, 102, 32, 97, 59, 32, 116, 104, 101, 110, 32, 102, 105]⟩, .string ⟨#[123, 32, 97, 32, 125]⟩, .string ⟨#[40, 32, 97]⟩, .string ⟨#[119, 104, 105, 108, 101, 32, 97, 59, 32, 100, 111, 32, 98]⟩, .string ⟨#[102, 111, 114, 32, 49, 32, 105, 110, 32, 97, 59, 32, 100, 111, 32, 98, 59, 32, 100, 111, 110, 101]⟩, .string ⟨#[102, 111, 114, 32, 105, 32, 97, 59, 32, 100, 111, 32, 98, 59, 32, 100, 111, 110, 101]⟩, .string ⟨#[99, 97, 115, 101, 32, 120, 32, 105, 110, 32, 97, 41, 32, 59, 59, 32, 101, 115, 97, 99]⟩, .string ⟨#[102, 40, 32, 97]⟩, .string ⟨#[102, 40, 41, 32, 97]⟩, .string ⟨#[116, 104, 101, 110]⟩, .string ⟨#[97, 32, 62, 32, 59, 32, 98]⟩, .string ⟨#[97, 32, 124, 32, 124, 32, 98]⟩, .string ⟨#[33, 32, 33, 32, 97]⟩, .string ⟨#[100, 111, 110, 101]⟩, .string ⟨#[40, 41]⟩] 9
def atObj : Obj := .cells #[.int .i64 0, .int .i64 4, .int .i64 0, .int .i64 1, .int .i64 13, .int .i64 11, .int .i64 5, .int .i64 3, .int .i64 13, .int .i64 4, .int .i64 6, .int .i64 13, .int .i64 3, .int .i64 4, .int .i64 0, .int .i64 4, .int .i64 4, .int .i64 2, .int .i64 0, .int .i64 1] 3
def lowB (s : ByteArray) : Bool := s.data.toList.all fun b => decide (0 < b.toNat) && decide (b.toNat < 128)
def oddLow (k : Nat) : Bool := decide ((oddT k).data.toList.map (·.toNat) = oddN.getD k []) && lowB (oddT k)
theorem odd_low : ∀ k, k < 20 → oddLow k = true := by decide +kernel
theorem lowB_is {s : ByteArray} (h : lowB s = true) : ∀ b ∈ s.data.toList, 0 < b.toNat ∧ b.toNat < 128 := by
  unfold lowB at h
  simpa only [List.all_eq_true, Bool.and_eq_true, decide_eq_true_eq] using h
theorem odd_says {k : Nat} (hk : k < 20) : parseB (oddT k) = .error (oddAt.getD k 0, 2) := by
  have h1 := odd_chk k hk
  have h2 := odd_low k hk
  unfold oddChk at h1
  unfold oddLow at h2
  simp only [Bool.and_eq_true, decide_eq_true_eq] at h1 h2
  obtain ⟨⟨h1, h3⟩, -⟩ := h1
  rw [parseB_low h2.1 (lowB_is h2.2) (by omega)]
  cases hm : parseN (oddN.getD k []).length (oddN.getD k []) with
  | ok ns => rw [hm] at h1; cases h1
  | error x =>
    obtain ⟨n, c⟩ := x
    rw [hm] at h1
    simp only [oddTell, Bool.and_eq_true, decide_eq_true_eq] at h1
    rw [h1.1, h1.2]
theorem pair_one (w : World) (o p : Obj) : ((w.alloc o).alloc p).heap[w.heap.size]? = some o := (Below.heap_alloc _ p _ (by rw [World.size_alloc]; omega)).trans (heap_alloc_new w o)
theorem pair_two (w : World) (o p : Obj) : ((w.alloc o).alloc p).heap[w.heap.size + 1]? = some p := by
  have := heap_alloc_new (w.alloc o) p
  rwa [World.size_alloc] at this
theorem pair_below (w : World) (o p : Obj) : Below w.heap.size w ((w.alloc o).alloc p) := (below_new w o).alloc (by rw [World.size_alloc]; omega) p
theorem odd_cell (w : World) (k : Nat) (hk : k < 20) : ((w.alloc oddObj).alloc atObj).cell? ⟨w.heap.size, k, none⟩ = some (.string (oddT k)) := by
  rw [cell_plain (pair_one w oddObj atObj)]
  have e : ∀ k, k < 20 → oddV.toArray[k]? = some (.string (oddT k)) := by
    intro k hk
    rw [List.getElem?_toArray, oddV, List.getElem?_map, oddT, List.getD_eq_getElem?_getD, List.getElem?_eq_getElem (show k < oddL.length from hk)]
    rfl
  exact e k hk
theorem at_cell (w : World) (k : Nat) (hk : k < 20) : ((w.alloc oddObj).alloc atObj).cell? ⟨w.heap.size + 1, k, none⟩ = some (.int .i64 (oddAt.getD k 0 : Nat)) := by
  rw [cell_plain (pair_two w oddObj atObj)]
  have e : ∀ k, k < 20 → atV.toArray[k]? = some (.int .i64 (oddAt.getD k 0 : Nat)) := by
    intro k hk
    rw [List.getElem?_toArray, atV, List.getElem?_map, List.getD_eq_getElem?_getD, List.getElem?_eq_getElem (show k < oddAt.length from hk)]
    rfl
  exact e k hk

set_option maxHeartbeats 4000000 in
set_option maxRecDepth 100000 in
theorem odd_out (n : Int) (w : World) (h : n < 0 ∨ 20 ≤ n) : Calls Tryz.prog 5 #[.int .i64 n] w fun e w' => e = .returned (.bool true) ∧ Below w.heap.size w w' := by
  have hb := pair_below w oddObj atObj
  by_cases h0 : n < 0
  · clear h
    go_enter Tryz.func5, Tryz.ntmps5
    go_wp2_with fail
    go_ret
    exact ⟨rfl, hb⟩
  have h20 : 20 ≤ n := by omega
  clear h
  go_enter Tryz.func5, Tryz.ntmps5
  go_wp2_with fail
  go_ret
  exact ⟨rfl, hb⟩

set_option maxHeartbeats 4000000 in
set_option maxRecDepth 100000 in
theorem odd_in (k : Nat) (hk : k < 20) (w : World) (hS : Signs w) : Calls Tryz.prog 5 #[.int .i64 (k : Int)] w fun e w' => e = .returned (.bool true) ∧ Below w.heap.size w w' := by
  have HBB := Lib.hid (pair_below w oddObj atObj)
  have ca := odd_cell w k hk
  have cb := at_cell w k hk
  obtain ⟨W, hW⟩ : ∃ W, (w.alloc oddObj).alloc atObj = W := ⟨_, rfl⟩
  rw [hW] at HBB ca cb
  have HS := Lib.hid (signs_below hS HBB.out)
  have HT := Lib.hid (show Calls Tryz.prog 11 #[.string (oddT k)] W (fun e w' => e = .returned (.tuple #[.agg PZ, .int .i64 (oddAt.getD k 0 : Nat), .int .i64 2]) ∧ Below W.heap.size W w') from by
    refine (pparse_any (oddT k) W HS.out).mono fun e w' h => ?_
    unfold PaEnd at h
    rw [odd_says hk] at h
    exact ⟨h.2.1, h.2.2⟩)
  unfold PZ at HT
  obtain ⟨tx, htx⟩ : ∃ tx, oddT k = tx := ⟨_, rfl⟩
  obtain ⟨a, ha⟩ : ∃ a : Int, ((oddAt.getD k 0 : Nat) : Int) = a := ⟨_, rfl⟩
  rw [htx] at HT ca
  rw [ha] at HT cb
  have h0 : (0 : Int) ≤ (k : Int) := by omega
  have h1 : (k : Int) < 20 := by omega
  have h2 : ¬ (k : Int) < 0 := by omega
  have h3 : ¬ (20 : Int) ≤ (k : Int) := by omega
  clear htx ha hk hS
  unfold oddObj atObj at hW
  go_enter Tryz.func5, Tryz.ntmps5
  go_wp2_with (first
    | (rw [hW]; clear hW)
    | (go_at_call 11; refine HT.out.mono ?_; rintro e w1 ⟨rfl, hb⟩; have HB := Lib.hid hb; have cb1 := cell_alloc ((hb.cell (p := ⟨w.heap.size + 1, k, none⟩) (World.block_lt_of_cell? W _ cb)).trans cb) (.cells #[.slice none 0 0, .int .i64 0] 24); clear hb)
    | (go_at_call 14; refine (known_any _ (signs_new (signs_below HS.out HB.out) _)).mono ?_; rintro e w2 ⟨rfl, hb2⟩; have HB2 := Lib.hid hb2; clear hb2))
  go_ret
  have h5 := (HB.out.alloc HB.out.size (.cells #[.slice none 0 0, .int .i64 0] 24)).trans (HB2.out.mono (by have := HB.out.size; rw [World.size_alloc]; omega))
  exact ⟨rfl, HBB.out.trans (h5.mono HBB.out.size)⟩
theorem odd_law (n : Int) (w : World) (hS : Signs w) : Calls Tryz.prog 5 #[.int .i64 n] w fun e w' => e = .returned (.bool true) ∧ Below w.heap.size w w' := by
  by_cases h : n < 0 ∨ 20 ≤ n
  · exact odd_out n w h
  · obtain ⟨k, rfl⟩ : ∃ k : Nat, n = (k : Int) := ⟨n.toNat, by omega⟩
    exact odd_in k (by omega) w hS
end Go.Proofs.YtakceggnadagmaaGreatDoor
