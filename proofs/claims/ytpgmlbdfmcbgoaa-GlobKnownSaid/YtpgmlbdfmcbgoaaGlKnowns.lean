/-
  Proved: the walk of the law GlobKnown, and of its known: they answer true and change nothing that was there. Conditions: none.
-/
import Derived.Test.YtpgmlbdfmcbgoaaGlKnown
namespace Go.Proofs.Ytpgmlbdfmcbgoaa
open Go Go.RowKit GlyphMath GlMath

def gpL : List ByteArray := [⟨#[91, 97, 98, 99, 93]⟩, ⟨#[91, 33, 97, 98, 99, 93]⟩, ⟨#[91, 97, 45, 99, 93]⟩, ⟨#[91, 93, 97, 93]⟩, ⟨#[91, 33, 93, 97, 93]⟩, ⟨#[91, 97]⟩, ⟨#[91, 97, 45, 93]⟩, ⟨#[91, 45, 97, 93]⟩, ⟨#[91, 93]⟩, ⟨#[97, 91, 98, 93, 99]⟩, ⟨#[42, 91, 48, 45, 57, 93]⟩, ⟨#[63, 63]⟩, ⟨#[91, 33, 97, 45, 99, 93, 42]⟩, ⟨#[91, 195, 169, 45, 195, 188, 93]⟩, ⟨#[91, 97, 45, 99, 45, 101, 93]⟩, ⟨#[91, 99, 45, 97, 93]⟩]
def gyL : List ByteArray := [⟨#[98]⟩, ⟨#[100]⟩, ⟨#[99]⟩, ⟨#[93]⟩, ⟨#[98]⟩, ⟨#[91, 97]⟩, ⟨#[45]⟩, ⟨#[45]⟩, ⟨#[91, 93]⟩, ⟨#[97, 98, 99]⟩, ⟨#[120, 55]⟩, ⟨#[195, 169, 97]⟩, ⟨#[100, 97]⟩, ⟨#[195, 182]⟩, ⟨#[101]⟩, ⟨#[]⟩]
def gnL : List ByteArray := [⟨#[100]⟩, ⟨#[98]⟩, ⟨#[100]⟩, ⟨#[98]⟩, ⟨#[93]⟩, ⟨#[97]⟩, ⟨#[98]⟩, ⟨#[98]⟩, ⟨#[93]⟩, ⟨#[97, 98, 98, 99]⟩, ⟨#[55, 120]⟩, ⟨#[195, 169]⟩, ⟨#[97, 98]⟩, ⟨#[97]⟩, ⟨#[100]⟩, ⟨#[98]⟩]
def gpT : Obj := .cells #[.string ⟨#[91, 97, 98, 99, 93]⟩, .string ⟨#[91, 33, 97, 98, 99, 93]⟩, .string ⟨#[91, 97, 45, 99, 93]⟩, .string ⟨#[91, 93, 97, 93]⟩, .string ⟨#[91, 33, 93, 97, 93]⟩, .string ⟨#[91, 97]⟩, .string ⟨#[91, 97, 45, 93]⟩, .string ⟨#[91, 45, 97, 93]⟩, .string ⟨#[91, 93]⟩, .string ⟨#[97, 91, 98, 93, 99]⟩, .string ⟨#[42, 91, 48, 45, 57, 93]⟩, .string ⟨#[63, 63]⟩, .string ⟨#[91, 33, 97, 45, 99, 93, 42]⟩, .string ⟨#[91, 195, 169, 45, 195, 188, 93]⟩, .string ⟨#[91, 97, 45, 99, 45, 101, 93]⟩, .string ⟨#[91, 99, 45, 97, 93]⟩] 9
def gyT : Obj := .cells #[.string ⟨#[98]⟩, .string ⟨#[100]⟩, .string ⟨#[99]⟩, .string ⟨#[93]⟩, .string ⟨#[98]⟩, .string ⟨#[91, 97]⟩, .string ⟨#[45]⟩, .string ⟨#[45]⟩, .string ⟨#[91, 93]⟩, .string ⟨#[97, 98, 99]⟩, .string ⟨#[120, 55]⟩, .string ⟨#[195, 169, 97]⟩, .string ⟨#[100, 97]⟩, .string ⟨#[195, 182]⟩, .string ⟨#[101]⟩, .string ⟨#[]⟩] 9
def gnT : Obj := .cells #[.string ⟨#[100]⟩, .string ⟨#[98]⟩, .string ⟨#[100]⟩, .string ⟨#[98]⟩, .string ⟨#[93]⟩, .string ⟨#[97]⟩, .string ⟨#[98]⟩, .string ⟨#[98]⟩, .string ⟨#[93]⟩, .string ⟨#[97, 98, 98, 99]⟩, .string ⟨#[55, 120]⟩, .string ⟨#[195, 169]⟩, .string ⟨#[97, 98]⟩, .string ⟨#[97]⟩, .string ⟨#[100]⟩, .string ⟨#[98]⟩] 9
theorem gk_yes : ∀ k, k < 15 → globM (chM false (letters (gpL.getD k ⟨#[]⟩))) ((letters (gyL.getD k ⟨#[]⟩)).map fun (x : Nat) => (x : Int)) = true := by decide +kernel
theorem gk_no : ∀ k, k < 16 → globM (chM false (letters (gpL.getD k ⟨#[]⟩))) ((letters (gnL.getD k ⟨#[]⟩)).map fun (x : Nat) => (x : Int)) = false := by decide +kernel
theorem gk_size : ∀ k, k < 16 → (gpL.getD k ⟨#[]⟩).size ≤ 1000 ∧ (gyL.getD k ⟨#[]⟩).size ≤ 1000 ∧ (gnL.getD k ⟨#[]⟩).size ≤ 1000 := by decide +kernel
theorem tri (w : World) (a b c : Obj) : (((w.alloc a).alloc b).alloc c).heap[w.heap.size]? = some a ∧ (((w.alloc a).alloc b).alloc c).heap[w.heap.size + 1]? = some b ∧ (((w.alloc a).alloc b).alloc c).heap[w.heap.size + 2]? = some c := by
  refine ⟨?_, ?_, ?_⟩
  · exact (Below.heap_alloc _ c _ (by simp; omega)).trans ((Below.heap_alloc _ b _ (by simp)).trans (heap_alloc_new w a))
  · have h := heap_alloc_new (w.alloc a) b
    rw [World.size_alloc] at h
    exact (Below.heap_alloc _ c _ (by simp)).trans h
  · have h := heap_alloc_new ((w.alloc a).alloc b) c
    rw [World.size_alloc, World.size_alloc] at h
    exact h
theorem tri_below (w : World) (a b c : Obj) : Below w.heap.size w (((w.alloc a).alloc b).alloc c) := (((Below.refl _ w).alloc (Nat.le_refl _) a).alloc (by simp) b).alloc (by simp; omega) c
theorem gcell (L : List ByteArray) (k : Nat) (hk : k < L.length) : (L.map Value.string).toArray[k]? = some (.string (L.getD k ⟨#[]⟩)) := by
  rw [List.getElem?_toArray, List.getElem?_map, List.getD_eq_getElem?_getD, List.getElem?_eq_getElem hk]
  rfl
theorem gk_cells (w : World) (k : Nat) (hk : k < 16) : (((w.alloc gpT).alloc gyT).alloc gnT).cell? ⟨w.heap.size, k, none⟩ = some (.string (gpL.getD k ⟨#[]⟩)) ∧ (((w.alloc gpT).alloc gyT).alloc gnT).cell? ⟨w.heap.size + 1, k, none⟩ = some (.string (gyL.getD k ⟨#[]⟩)) ∧ (((w.alloc gpT).alloc gyT).alloc gnT).cell? ⟨w.heap.size + 2, k, none⟩ = some (.string (gnL.getD k ⟨#[]⟩)) := by
  obtain ⟨h1, h2, h3⟩ := tri w gpT gyT gnT
  refine ⟨?_, ?_, ?_⟩
  · rw [cell_of_row _ _ k _ _ _ h1]
    exact gcell gpL k hk
  · rw [cell_of_row _ _ k _ _ _ h2]
    exact gcell gyL k hk
  · rw [cell_of_row _ _ k _ _ _ h3]
    exact gcell gnL k hk

set_option maxHeartbeats 4000000 in
set_option maxRecDepth 100000 in
theorem gk_out (n : Int) (w : World) (h : n < 0 ∨ 16 ≤ n) : Calls Try.prog 3 #[.int .i64 n] w fun e w' => e = .returned (.bool true) ∧ Below w.heap.size w w' := by
  have hb := tri_below w gpT gyT gnT
  by_cases h0 : n < 0
  · clear h
    go_enter Try.func3, Try.ntmps3
    go_wp2_with fail
    go_ret
    exact ⟨rfl, hb⟩
  have h20 : 16 ≤ n := by omega
  clear h
  go_enter Try.func3, Try.ntmps3
  go_wp2_with fail
  go_ret
  exact ⟨rfl, hb⟩

set_option maxHeartbeats 4000000 in
set_option maxRecDepth 100000 in
theorem gk_in (k : Nat) (hk : k < 16) (w : World) : Calls Try.prog 3 #[.int .i64 (k : Int)] w fun e w' => e = .returned (.bool true) ∧ Below w.heap.size w w' := by
  have hbb := tri_below w gpT gyT gnT
  obtain ⟨ca, cb, cc⟩ := gk_cells w k hk
  obtain ⟨W, hW⟩ : ∃ W, ((w.alloc gpT).alloc gyT).alloc gnT = W := ⟨_, rfl⟩
  rw [hW] at hbb ca cb cc
  have HBB := Lib.hid hbb
  obtain ⟨z1, z2, z3⟩ := gk_size k hk
  have hyes := gk_yes k
  have hno := gk_no k hk
  obtain ⟨P, hP⟩ : ∃ P, gpL.getD k ⟨#[]⟩ = P := ⟨_, rfl⟩
  obtain ⟨Y, hY⟩ : ∃ Y, gyL.getD k ⟨#[]⟩ = Y := ⟨_, rfl⟩
  obtain ⟨Z, hZ⟩ : ∃ Z, gnL.getD k ⟨#[]⟩ = Z := ⟨_, rfl⟩
  rw [hP] at z1 ca hyes hno
  rw [hY] at z2 cb hyes
  rw [hZ] at z3 cc hno
  have HC := Lib.hid (chars_any P false W z1)
  have HL := Lib.hid (show (letters P).length ≤ 1000 from Nat.le_trans (letters_length P) z1)
  have HM := Lib.hid (fun (v : Value) (V : World) (hv : ChAt V v (chM false (letters P))) (s : ByteArray) (hs : s.size ≤ 1000) (D : Bool) (hD : globM (chM false (letters P)) ((letters s).map fun (x : Nat) => (x : Int)) = D) => (show Calls Try.prog 5 #[v, .string s] V fun e w' => e = .returned (.bool D) ∧ Below V.heap.size V w' from by
    rw [← hD]
    exact match_in _ v s V hv (by rw [chM_length]; have := HL.out; omega) hs))
  have HZ := Lib.hid (And.intro z2 (And.intro z3 hno))
  have HCC := Lib.hid (fun (V : World) (hb : Below W.heap.size W V) => (show V.cell? ⟨w.heap.size + 1, k, none⟩ = some (.string Y) ∧ V.cell? ⟨w.heap.size + 2, k, none⟩ = some (.string Z) from ⟨(hb.cell (World.block_lt_of_cell? W _ cb)).trans cb, (hb.cell (World.block_lt_of_cell? W _ cc)).trans cc⟩))
  have h0 : (0 : Int) ≤ (k : Int) := by omega
  have h1 : (k : Int) < 16 := by omega
  have h2 : ¬ (k : Int) < 0 := by omega
  have h3 : ¬ (16 : Int) ≤ (k : Int) := by omega
  unfold gpT gyT gnT at hW
  clear hP hY hZ hbb z1 z2 z3 hno cb cc
  by_cases h15 : k = 15
  · have h15b : ((k : Int) == 15) = true := by rw [h15]; rfl
    clear hyes h15 hk
    go_enter Try.func3, Try.ntmps3
    go_wp2_with (first
      | (rw [hW]; clear hW)
      | (go_at_call 4; (with_reducible refine HC.out.mono ?_); rintro e w1 ⟨g1, c1, rfl, hr1, hb1⟩; have HA1 := Lib.hid hr1.at_; have HB1 := Lib.hid hb1; clear hb1 hr1; obtain ⟨cb, cc⟩ := HCC.out _ HB1.out)
      | (go_at_call 5; (with_reducible refine (HM.out _ _ HA1.out Z HZ.out.2.1 false HZ.out.2.2).mono ?_); rintro e w3 ⟨rfl, hb3⟩; have HB3 := Lib.hid (HB1.out.trans (hb3.mono HB1.out.size)); clear hb3)
      | (go_at_call 6; (with_reducible refine (known_any _).mono ?_); rintro e w4 ⟨rfl, hb4⟩; have HB4 := Lib.hid (HB3.out.trans (hb4.mono HB3.out.size)); clear hb4))
    go_ret
    exact ⟨rfl, HBB.out.trans (HB4.out.mono HBB.out.size)⟩
  · have h15b : ((k : Int) == 15) = false := by
      have : ¬ (k : Int) = 15 := by omega
      simpa using this
    have HY := Lib.hid (hyes (by omega))
    clear hyes h15 hk
    go_enter Try.func3, Try.ntmps3
    go_wp2_with (first
      | (rw [hW]; clear hW)
      | (go_at_call 4; (with_reducible refine HC.out.mono ?_); rintro e w1 ⟨g1, c1, rfl, hr1, hb1⟩; have HA1 := Lib.hid hr1.at_; have HB1 := Lib.hid hb1; clear hb1 hr1; obtain ⟨cb, cc⟩ := HCC.out _ HB1.out)
      | (go_at_call 5; (with_reducible refine (HM.out _ _ HA1.out Y HZ.out.1 true HY.out).mono ?_); rintro e w2 ⟨rfl, hb2⟩; have HB2 := Lib.hid (HB1.out.trans (hb2.mono HB1.out.size)); have HA2 := Lib.hid (HA1.out.below hb2); clear hb2 cb cc; obtain ⟨cb, cc⟩ := HCC.out _ HB2.out)
      | (go_at_call 5; (with_reducible refine (HM.out _ _ HA2.out Z HZ.out.2.1 false HZ.out.2.2).mono ?_); rintro e w3 ⟨rfl, hb3⟩; have HB3 := Lib.hid (HB2.out.trans (hb3.mono HB2.out.size)); clear hb3)
      | (go_at_call 6; (with_reducible refine (known_any _).mono ?_); rintro e w4 ⟨rfl, hb4⟩; have HB4 := Lib.hid (HB3.out.trans (hb4.mono HB3.out.size)); clear hb4))
    go_ret
    exact ⟨rfl, HBB.out.trans (HB4.out.mono HBB.out.size)⟩
theorem gk_law (n : Int) (w : World) : Calls Try.prog 3 #[.int .i64 n] w fun e w' => e = .returned (.bool true) ∧ Below w.heap.size w w' := by
  by_cases h : n < 0 ∨ 16 ≤ n
  · exact gk_out n w h
  · obtain ⟨k, rfl⟩ : ∃ k : Nat, n = (k : Int) := ⟨n.toNat, by omega⟩
    exact gk_in k (by omega) w
end Go.Proofs.Ytpgmlbdfmcbgoaa
