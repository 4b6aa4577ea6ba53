/-
  Proved: the walk of the law ArithKnown: it answers true and changes nothing that was there. Conditions: the library's two sentinel errors read as laid.
-/
import Derived.Test.YtlgbfhjbfolibaaDoorArKnown
namespace Go.Proofs.YtlgbfhjbfolibaaDoor
open Go Go.Shelf Go.RowKit ArMath

def kwL : List B := [[55, 32, 47, 32, 45, 50], [55, 32, 37, 32, 45, 50], [45, 55, 32, 47, 32, 50], [45, 55, 32, 37, 32, 50], [50, 32, 45, 32, 51, 32, 45, 32, 52], [50, 32, 42, 32, 40, 51, 32, 43, 32, 52, 41], [49, 32, 60, 32, 50], [50, 32, 60, 61, 32, 49], [33, 53], [33, 33, 53], [45, 32, 45, 51], [121], [49, 32, 61, 61, 32, 49], [57, 50, 50, 51, 51, 55, 50, 48, 51, 54, 56, 53, 52, 55, 55, 53, 56, 48, 55], [57, 50, 50, 51, 51, 55, 50, 48, 51, 54, 56, 53, 52, 55, 55, 53, 56, 48, 56], [57, 50, 50, 51, 51, 55, 50, 48, 51, 54, 56, 53, 52, 55, 55, 53, 56, 48, 55, 32, 43, 32, 49], [49, 32, 47, 32, 48], [49, 32, 37, 32, 48], [49, 32, 43], [49, 32, 47, 32, 48, 32, 43], [], [40, 49], [49, 32, 50], [49, 32, 60, 32, 50, 32, 60, 32, 51], [97, 98, 99, 100, 101, 102, 103, 104, 105, 106, 107, 108, 109], [120, 32, 42, 32, 120], [45, 57, 50, 50, 51, 51, 55, 50, 48, 51, 54, 56, 53, 52, 55, 55, 53, 56, 48, 55, 32, 45, 32, 49], [119]]
def kwW : List Int := [-3, 1, -3, -1, -5, 14, 1, 0, 0, 1, 3, 0, 1, 9223372036854775807, 0, 0, 0, 0, 0, 0, 0, 0, 0, 0, 0, 25, -9223372036854775808, 0]
def kwE : List Int := [0, 0, 0, 0, 0, 0, 0, 0, 0, 0, 0, 0, 0, 0, 6, 6, 6, 6, 2, 2, 2, 2, 2, 2, 2, 0, 0, 6]
def kwT : Obj := .cells #[.string ⟨#[55, 32, 47, 32, 45, 50]⟩, .string ⟨#[55, 32, 37, 32, 45, 50]⟩, .string ⟨#[45, 55, 32, 47, 32, 50]⟩, .string ⟨#[45, 55, 32, 37, 32, 50]⟩, .string ⟨#[50, 32, 45, 32, 51, 32, 45, 32, 52]⟩, .string ⟨#[50, 32, 42, 32, 40, 51, 32, 43, 32, 52, 41]⟩, .string ⟨#[49, 32, 60, 32, 50]⟩, .string ⟨#[50, 32, 60, 61, 32, 49]⟩, .string ⟨#[33, 53]⟩, .string ⟨#[33, 33, 53]⟩, .string ⟨#[45, 32, 45, 51]⟩, .string ⟨#[121]⟩, .string ⟨#[49, 32, 61, 61, 32, 49]⟩, .string ⟨#[57, 50, 50, 51, 51, 55, 50, 48, 51, 54, 56, 53, 52, 55, 55, 53, 56, 48, 55]⟩, .string ⟨#[57, 50, 50, 51, 51, 55, 50, 48, 51, 54, 56, 53, 52, 55, 55, 53, 56, 48, 56]⟩, .string ⟨#[57, 50, 50, 51, 51, 55, 50, 48, 51, 54, 56, 53, 52, 55, 55, 53, 56, 48, 55, 32, 43, 32, 49]⟩, .string ⟨#[49, 32, 47, 32, 48]⟩, .string ⟨#[49, 32, 37, 32, 48]⟩, .string ⟨#[49, 32, 43]⟩, .string ⟨#[49, 32, 47, 32, 48, 32, 43]⟩, .string ⟨#[]⟩, .string ⟨#[40, 49]⟩, .string ⟨#[49, 32, 50]⟩, .string ⟨#[49, 32, 60, 32, 50, 32, 60, 32, 51]⟩, .string ⟨#[97, 98, 99, 100, 101, 102, 103, 104, 105, 106, 107, 108, 109]⟩, .string ⟨#[120, 32, 42, 32, 120]⟩, .string ⟨#[45, 57, 50, 50, 51, 51, 55, 50, 48, 51, 54, 56, 53, 52, 55, 55, 53, 56, 48, 55, 32, 45, 32, 49]⟩, .string ⟨#[119]⟩] 9
def kwO : Obj := .cells #[.int .i64 (-3), .int .i64 1, .int .i64 (-3), .int .i64 (-1), .int .i64 (-5), .int .i64 14, .int .i64 1, .int .i64 0, .int .i64 0, .int .i64 1, .int .i64 3, .int .i64 0, .int .i64 1, .int .i64 9223372036854775807, .int .i64 0, .int .i64 0, .int .i64 0, .int .i64 0, .int .i64 0, .int .i64 0, .int .i64 0, .int .i64 0, .int .i64 0, .int .i64 0, .int .i64 0, .int .i64 25, .int .i64 (-9223372036854775808), .int .i64 0] 2
def kwX : Obj := .cells #[.int .i64 0, .int .i64 0, .int .i64 0, .int .i64 0, .int .i64 0, .int .i64 0, .int .i64 0, .int .i64 0, .int .i64 0, .int .i64 0, .int .i64 0, .int .i64 0, .int .i64 0, .int .i64 0, .int .i64 6, .int .i64 6, .int .i64 6, .int .i64 6, .int .i64 2, .int .i64 2, .int .i64 2, .int .i64 2, .int .i64 2, .int .i64 2, .int .i64 2, .int .i64 0, .int .i64 0, .int .i64 6] 23
def kwVars : Vars := [([119], [49, 120]), ([120], [53]), ([122], [])]
theorem kw_says : ∀ k, k < 28 → evalM kwVars (kwL.getD k []) = (kwW.getD k 0, kwE.getD k 0) := by decide +kernel
theorem kw_size : ∀ k, k < 28 → (kwL.getD k []).length ≤ 5000 := by decide +kernel
theorem tri (w : World) (a b c : Obj) : (((w.alloc a).alloc b).alloc c).heap[w.heap.size]? = some a ∧ (((w.alloc a).alloc b).alloc c).heap[w.heap.size + 1]? = some b ∧ (((w.alloc a).alloc b).alloc c).heap[w.heap.size + 2]? = some c := by
  refine ⟨?_, ?_, ?_⟩
  · exact (Below.heap_alloc _ c _ (by simp; omega)).trans ((Below.heap_alloc _ b _ (by simp)).trans (heap_alloc_new w a))
  · have h := heap_alloc_new (w.alloc a) b
    rw [World.size_alloc] at h
    exact (Below.heap_alloc _ c _ (by simp)).trans h
  · have h := heap_alloc_new ((w.alloc a).alloc b) c
    rw [World.size_alloc, World.size_alloc] at h
    exact h
theorem tri_below (w : World) (a b c : Obj) : Below w.heap.size w (((w.alloc a).alloc b).alloc c) := (((Below.refl _ w).alloc (Nat.le_refl _) a).alloc (by simp) b).alloc (by simp; omega) c
theorem kw_cells (w : World) (k : Nat) (hk : k < 28) : (((w.alloc kwT).alloc kwO).alloc kwX).cell? ⟨w.heap.size, k, none⟩ = some (.string (tx (kwL.getD k []))) ∧ (((w.alloc kwT).alloc kwO).alloc kwX).cell? ⟨w.heap.size + 1, k, none⟩ = some (.int .i64 (kwW.getD k 0)) ∧ (((w.alloc kwT).alloc kwO).alloc kwX).cell? ⟨w.heap.size + 2, k, none⟩ = some (.int .i64 (kwE.getD k 0)) := by
  obtain ⟨h1, h2, h3⟩ := tri w kwT kwO kwX
  refine ⟨?_, ?_, ?_⟩
  · rw [cell_of_row _ _ k _ _ _ h1]
    have e : ∀ k, k < 28 → (kwL.map fun l => Value.string (tx l)).toArray[k]? = some (.string (tx (kwL.getD k []))) := by
      intro k hk
      rw [List.getElem?_toArray, List.getElem?_map, List.getD_eq_getElem?_getD, List.getElem?_eq_getElem (show k < kwL.length from hk)]
      rfl
    exact e k hk
  · rw [cell_of_row _ _ k _ _ _ h2]
    have e : ∀ k, k < 28 → (kwW.map fun n => Value.int .i64 n).toArray[k]? = some (.int .i64 (kwW.getD k 0)) := by
      intro k hk
      rw [List.getElem?_toArray, List.getElem?_map, List.getD_eq_getElem?_getD, List.getElem?_eq_getElem (show k < kwW.length from hk)]
      rfl
    exact e k hk
  · rw [cell_of_row _ _ k _ _ _ h3]
    have e : ∀ k, k < 28 → (kwE.map fun n => Value.int .i64 n).toArray[k]? = some (.int .i64 (kwE.getD k 0)) := by
      intro k hk
      rw [List.getElem?_toArray, List.getElem?_map, List.getD_eq_getElem?_getD, List.getElem?_eq_getElem (show k < kwE.length from hk)]
      rfl
    exact e k hk
def kwV : Obj := .cells #[.string ⟨#[119]⟩, .string ⟨#[49, 120]⟩, .string ⟨#[120]⟩, .string ⟨#[53]⟩, .string ⟨#[122]⟩, .string ⟨#[]⟩] 38
theorem kw_vars (W : World) : VarsAt (W.alloc kwV) (.slice (some ⟨W.heap.size, 0, none⟩) 3 3) kwVars := by
  refine ⟨_, _, rfl, by decide, fun j x hx => ?_⟩
  have h := heap_alloc_new W kwV
  match j, hx with
  | 0, hx => cases hx; exact ⟨by decide, by decide, _, _, rfl, cell_of_row _ _ _ _ _ _ h, cell_of_row _ _ _ _ _ _ h⟩
  | 1, hx => cases hx; exact ⟨by decide, by decide, _, _, rfl, cell_of_row _ _ _ _ _ _ h, cell_of_row _ _ _ _ _ _ h⟩
  | 2, hx => cases hx; exact ⟨by decide, by decide, _, _, rfl, cell_of_row _ _ _ _ _ _ h, cell_of_row _ _ _ _ _ _ h⟩
  | j + 3, hx => simp [kwVars] at hx

set_option maxHeartbeats 4000000 in
set_option maxRecDepth 100000 in
theorem kw_out (n : Int) (w : World) (h : n < 0 ∨ 28 ≤ n) : Calls Tryd.prog 5 #[.int .i64 n] w fun e w' => e = .returned (.bool true) ∧ Below w.heap.size w w' := by
  have hb := tri_below w kwT kwO kwX
  by_cases h0 : n < 0
  · clear h
    go_enter Tryd.func5, Tryd.ntmps5
    go_wp2_with fail
    go_ret
    exact ⟨rfl, hb⟩
  have h20 : 28 ≤ n := by omega
  clear h
  go_enter Tryd.func5, Tryd.ntmps5
  go_wp2_with fail
  go_ret
  exact ⟨rfl, hb⟩

set_option maxHeartbeats 4000000 in
set_option maxRecDepth 100000 in
theorem kw_in (k : Nat) (hk : k < 28) (w : World) (hg : GlobA w) (h7 : 7 ≤ w.heap.size) : Calls Tryd.prog 5 #[.int .i64 (k : Int)] w fun e w' => e = .returned (.bool true) ∧ Below w.heap.size w w' := by
  have hbb := tri_below w kwT kwO kwX
  obtain ⟨ca, cb, cc⟩ := kw_cells w k hk
  obtain ⟨W, hW⟩ : ∃ W, ((w.alloc kwT).alloc kwO).alloc kwX = W := ⟨_, rfl⟩
  rw [hW] at hbb ca cb cc
  have HBB := Lib.hid hbb
  have hv1 : Below W.heap.size W (W.alloc kwV) := (Below.refl _ W).alloc (Nat.le_refl _) _
  have HG := Lib.hid (And.intro (hg.below hbb) (Nat.le_trans h7 hbb.size))
  have HE := Lib.hid (eval_any (kwL.getD k []) (kw_size k hk) kwVars _ _ (kw_vars W) ((hg.below hbb).below hv1) (Nat.le_trans (Nat.le_trans h7 hbb.size) hv1.size))
  rw [kw_says k hk] at HE
  obtain ⟨T, hT⟩ : ∃ T, tx (kwL.getD k []) = T := ⟨_, rfl⟩
  obtain ⟨A, hA⟩ : ∃ A, kwW.getD k 0 = A := ⟨_, rfl⟩
  obtain ⟨E, hE⟩ : ∃ E, kwE.getD k 0 = E := ⟨_, rfl⟩
  rw [hT] at HE ca
  rw [hA] at HE cb
  rw [hE] at HE cc
  have h0 : (0 : Int) ≤ (k : Int) := by omega
  have h1 : (k : Int) < 28 := by omega
  have h2 : ¬ (k : Int) < 0 := by omega
  have h3 : ¬ (28 : Int) ≤ (k : Int) := by omega
  have HC := Lib.hid (And.intro cb cc)
  have HV := Lib.hid hv1
  clear hT hA hE hk hg hbb h7 hv1
  unfold kwV at HE HV
  unfold kwT kwO kwX at hW
  go_enter Tryd.func5, Tryd.ntmps5
  go_wp2_with (first
    | (rw [hW]; clear hW)
    | (go_at_call 8; refine HE.out.mono ?_; rintro e w1 ⟨rfl, hb⟩; have HB := Lib.hid (HV.out.trans (hb.mono HV.out.size)); have cb1 := (World.cell?_of_block (HB.out.block (w.heap.size + 1) (World.block_lt_of_cell? W _ HC.out.1))).trans HC.out.1; have cc1 := (World.cell?_of_block (HB.out.block (w.heap.size + 2) (World.block_lt_of_cell? W _ HC.out.2))).trans HC.out.2; clear hb)
    | (go_at_call 10; refine (known_any _ (HG.out.1.below HB.out) (Nat.le_trans HG.out.2 HB.out.size)).mono ?_; rintro e w2 ⟨rfl, hb2⟩; have HB2 := Lib.hid (HB.out.trans (hb2.mono HB.out.size)); clear hb2))
  go_ret
  exact ⟨rfl, HBB.out.trans (HB2.out.mono HBB.out.size)⟩
theorem kw_law (n : Int) (w : World) (hg : GlobA w) (h7 : 7 ≤ w.heap.size) : Calls Tryd.prog 5 #[.int .i64 n] w fun e w' => e = .returned (.bool true) ∧ Below w.heap.size w w' := by
  by_cases h : n < 0 ∨ 28 ≤ n
  · exact kw_out n w h
  · obtain ⟨k, rfl⟩ : ∃ k : Nat, n = (k : Int) := ⟨n.toNat, by omega⟩
    exact kw_in k (by omega) w hg h7
end Go.Proofs.YtlgbfhjbfolibaaDoor
