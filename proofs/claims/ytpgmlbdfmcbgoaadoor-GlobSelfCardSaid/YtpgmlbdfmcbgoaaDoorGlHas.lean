/-
  Proved: contracts of Has, Chars, Match. Conditions: the pattern lies in memory, at most 100000 letters; texts of at most 1000 bytes.
-/
import Derived.Test.YtpgmlbdfmcbgoaaDoorGlMatch
import Derived.Test.YtpgmlbdfmcbgoaaDoorGlyphRunes
namespace Go.Proofs.YtpgmlbdfmcbgoaaDoor
open Go Go.RowKit GlyphMath GlMath

def hasC (c : Ch) : Bool := isM c 42 || isM c 63 || isM c 91
set_option maxHeartbeats 1000000 in
theorem hasC_any (c : Ch) (w : World) :
    Calls Tryd.prog 18 #[.agg #[.int .i32 c.1, .bool c.2]] w fun e w' => e = .returned (.bool (hasC c)) ∧ Below w.heap.size w w' := by
  obtain ⟨r, q⟩ := c
  obtain ⟨W1, hW1⟩ : ∃ W1, w.alloc (.cells #[.int .i32 r, .bool q] 35) = W1 := ⟨_, rfl⟩
  have hb1 : Below w.heap.size w W1 := by rw [← hW1]; exact (Below.refl _ w).alloc (Nat.le_refl _) _
  have hk1 : W1.heap[w.heap.size]? = some (.cells #[.int .i32 r, .bool q] 35) := by rw [← hW1]; exact heap_alloc_new w _
  have hX : w.heap.size < W1.heap.size := by rw [← hW1]; simp
  have HB1 := Lib.hid hb1
  have HC := Lib.hid (fun (W : World) (hb : Below W1.heap.size W1 W) => (show W.cell? ⟨w.heap.size, 0, none⟩ = some (.int .i32 r) ∧ W.cell? ⟨w.heap.size, 1, none⟩ = some (.bool q) from ⟨cell_of_row W _ 0 _ _ _ ((hb.block _ hX).trans hk1), cell_of_row W _ 1 _ _ _ ((hb.block _ hX).trans hk1)⟩))
  obtain ⟨c0, c1⟩ := HC.out W1 (Below.refl _ W1)
  have H1 := Lib.hid (fun W => is_any (r, q) 42 W)
  have H2 := Lib.hid (fun W => is_any (r, q) 63 W)
  have H3 := Lib.hid (fun W => is_any (r, q) 91 W)
  have hh : hasC (r, q) = (isM (r, q) 42 || isM (r, q) 63 || isM (r, q) 91) := rfl
  rw [hh]
  obtain ⟨D1, h1⟩ : ∃ D, isM (r, q) 42 = D := ⟨_, rfl⟩
  obtain ⟨D2, h2⟩ : ∃ D, isM (r, q) 63 = D := ⟨_, rfl⟩
  obtain ⟨D3, h3⟩ : ∃ D, isM (r, q) 91 = D := ⟨_, rfl⟩
  rw [h1, h2, h3]
  simp only [h1] at H1
  simp only [h2] at H2
  simp only [h3] at H3
  clear hb1 hk1 hX h1 h2 h3 hh
  cases D1 with
  | true =>
    go_enter Tryd.func18, Tryd.ntmps18
    go_wp2_with (first
      | (rw [hW1]; clear hW1)
      | (go_at_call 19; (with_reducible refine (H1.out _).mono ?_); rintro e w2 ⟨rfl, hb2⟩; have HB2 := Lib.hid hb2; clear hb2 H1))
    go_ret
    exact ⟨ret_bool (by simp), HB1.out.trans (HB2.out.mono HB1.out.size)⟩
  | false =>
  cases D2 with
  | true =>
    go_enter Tryd.func18, Tryd.ntmps18
    go_wp2_with (first
      | (rw [hW1]; clear hW1)
      | (go_at_call 19; (with_reducible refine (H1.out _).mono ?_); rintro e w2 ⟨rfl, hb2⟩; have HB2 := Lib.hid hb2; clear hb2 H1; obtain ⟨c0, c1⟩ := HC.out _ HB2.out)
      | (go_at_call 19; (with_reducible refine (H2.out _).mono ?_); rintro e w3 ⟨rfl, hb3⟩; have HB3 := Lib.hid (HB2.out.trans (hb3.mono HB2.out.size)); clear hb3 H2))
    go_ret
    exact ⟨ret_bool (by simp), HB1.out.trans (HB3.out.mono HB1.out.size)⟩
  | false =>
    go_enter Tryd.func18, Tryd.ntmps18
    go_wp2_with (first
      | (rw [hW1]; clear hW1)
      | (go_at_call 19; (with_reducible refine (H1.out _).mono ?_); rintro e w2 ⟨rfl, hb2⟩; have HB2 := Lib.hid hb2; clear hb2 H1; obtain ⟨c0, c1⟩ := HC.out _ HB2.out)
      | (go_at_call 19; (with_reducible refine (H2.out _).mono ?_); rintro e w3 ⟨rfl, hb3⟩; have HB3 := Lib.hid (HB2.out.trans (hb3.mono HB2.out.size)); clear hb3 H2; obtain ⟨c0, c1⟩ := HC.out _ HB3.out)
      | (go_at_call 19; (with_reducible refine (H3.out _).mono ?_); rintro e w4 ⟨rfl, hb4⟩; have HB4 := Lib.hid (HB3.out.trans (hb4.mono HB3.out.size)); clear hb4 H3))
    go_ret
    exact ⟨ret_bool (by simp), HB1.out.trans (HB4.out.mono HB1.out.size)⟩

def idxC : List Ch → Nat → Int
  | [], _ => -1
  | x :: l, k => if hasC x then (k : Int) else idxC l (k + 1)
theorem idxC_all : ∀ (l : List Ch) (k : Nat), decide ((0 : Int) ≤ idxC l k) = hasM l
  | [], _ => rfl
  | x :: l, k => by
    have e : hasM (x :: l) = (hasC x || hasM l) := by simp [hasM, hasC]
    rw [idxC, e]
    cases hx : hasC x with
    | true => simp
    | false => simpa using idxC_all l (k + 1)
theorem indexC_any (l : List Ch) (v : Value) (w : World) (h : ChAt w v l) :
    Calls Tryd.prog 28 #[v, .func (.func 18) #[] #[]] w fun e w' => e = .returned (.int .i64 (idxC l 0)) ∧ Below w.heap.size w w' := by
  obtain ⟨p, c, rfl, hlc, hcm, -⟩ := h.is
  have HA := Lib.hid h
  obtain ⟨N, hN⟩ : ∃ N, l.length = N := ⟨_, rfl⟩
  have HN := Lib.hid hN
  have HNM := Lib.hid (show N ≤ maxLen by rw [← hN]; omega)
  rw [hN]
  obtain ⟨I, hI⟩ : ∃ I, idxC l 0 = I := ⟨_, rfl⟩
  have HII := Lib.hid hI
  rw [hI]
  rw [hN] at HA
  clear h hN hlc hcm hI
  go_enter Tryd.func28, Tryd.ntmps28
  go_wp2_with fail
  go_loopw [8] (fun v wr => ∃ k : Nat, v = .int .i64 (k : Int) ∧ k ≤ N ∧ idxC (l.drop k) k = I ∧ Below w.heap.size w wr) (fun v _ => N - (intOf v).toNat)
  case atStart => exact ⟨0, rfl, Nat.zero_le _, HII.out, Below.refl _ _⟩
  case round =>
    obtain ⟨k, rfl, hk, hi, hb⟩ := hrel
    have HB := Lib.hid hb
    by_cases hlt : k < N
    · obtain ⟨x, hx⟩ : ∃ x, l[k]? = some x := ⟨_, List.getElem?_eq_getElem (by rw [HN.out]; exact hlt)⟩
      obtain ⟨b, o, hq, c0, c1⟩ := (HA.out.below hb).get hx
      subst hq
      rw [drop_at hx, idxC] at hi
      obtain ⟨x1, x2⟩ := x
      simp only at c0 c1
      have HM := Lib.hid (fun W => hasC_any (x1, x2) W)
      obtain ⟨D, hD⟩ : ∃ D, hasC (x1, x2) = D := ⟨_, rfl⟩
      simp only [hD] at HM hi
      have HLT := Lib.hid hlt
      have hltI : (k : Int) < (N : Int) := by omega
      have hk1 : (k : Int) + 1 ≤ 9223372036854775807 := by have := HNM.out; unfold maxLen at this; omega
      cases D
      · have HK := Lib.hid (show idxC (l.drop (k + 1)) (k + 1) = I by rw [← hi]; simp)
        clear hi hb hlt hk hx hD
        go_wp2_with (go_at_call 18; (with_reducible refine (HM.out _).mono ?_); rintro e w1 ⟨rfl, hb1⟩; have HB1 := Lib.hid (HB.out.trans (hb1.mono HB.out.size)); clear hb1)
        go_roundw
        case rel => exact ⟨k + 1, by simp, HLT.out, HK.out, HB1.out⟩
        case measure => have := HLT.out; simp [intOf]; omega
      · have HK := Lib.hid (show (k : Int) = I by rw [← hi]; simp)
        clear hi hb hlt hk hx hD
        go_wp2_with (go_at_call 18; (with_reducible refine (HM.out _).mono ?_); rintro e w1 ⟨rfl, hb1⟩; have HB1 := Lib.hid (HB.out.trans (hb1.mono HB.out.size)); clear hb1)
        go_ret
        exact ⟨by rw [HK.out]; rfl, HB1.out⟩
    · have hltI : ¬ (k : Int) < (N : Int) := by omega
      have HK := Lib.hid (show -1 = I by rw [← hi, List.drop_eq_nil_of_le (by rw [HN.out]; omega)]; rfl)
      clear hi hb hlt hk
      go_wp2_with fail
      go_ret
      exact ⟨by rw [HK.out]; rfl, HB.out⟩
theorem containsC_any (l : List Ch) (v : Value) (w : World) (h : ChAt w v l) :
    Calls Tryd.prog 17 #[v, .func (.func 18) #[] #[]] w fun e w' => e = .returned (.bool (hasM l)) ∧ Below w.heap.size w w' := by
  have HI := Lib.hid (indexC_any l v w h)
  rw [← idxC_all _ 0]
  obtain ⟨I, hI⟩ : ∃ I, idxC l 0 = I := ⟨_, rfl⟩
  rw [hI] at HI ⊢
  obtain ⟨p, c, rfl, hlc, hcm, -⟩ := h.is
  clear h hlc hcm hI
  go_enter Tryd.func17, Tryd.ntmps17
  go_wp2_with (go_at_call 28; (with_reducible refine HI.out.mono ?_); rintro e w1 ⟨rfl, hb1⟩; have HB1 := Lib.hid hb1; clear hb1)
  go_ret
  exact ⟨rfl, HB1.out⟩
theorem has_any (l : List Ch) (v : Value) (w : World) (h : ChAt w v l) :
    Calls Tryd.prog 9 #[v] w fun e w' => e = .returned (.bool (hasM l)) ∧ Below w.heap.size w w' := by
  have HI := Lib.hid (containsC_any l v w h)
  obtain ⟨p, c, rfl, hlc, hcm, -⟩ := h.is
  clear h hlc hcm
  go_enter Tryd.func9, Tryd.ntmps9
  go_wp2_with (go_at_call 17; (with_reducible refine HI.out.mono ?_); rintro e w1 ⟨rfl, hb1⟩; have HB1 := Lib.hid hb1; clear hb1)
  go_ret
  exact ⟨rfl, HB1.out⟩
end Go.Proofs.YtpgmlbdfmcbgoaaDoor
