/-
  Proved: the walk of the law ArithBlanks: it answers true and changes nothing that was there. Conditions: the library's two sentinel errors read as laid; the bindings, if they are few, can be read.
-/
import Derived.Test.YtlgbfhjbfolibaaDoorArBlank
import Derived.Test.YtlgbfhjbfolibaaDoorArKnown
namespace Go.Proofs.YtlgbfhjbfolibaaDoor
open Go Go.Shelf Go.RowKit ArMath

theorem tx_append (a b : B) : tx a ++ tx b = tx (a ++ b) := by
  apply ByteArray.ext
  simp [tx]
theorem VarsAt.len {w : World} {p : Option Addr} {n c : Nat} {vs : Vars} (h : VarsAt w (.slice p n c) vs) : vs.length = n ∧ n ≤ 20 := by
  obtain ⟨q, d, hv, h20, -⟩ := h
  cases hv
  exact ⟨rfl, h20⟩
set_option maxRecDepth 8000 in
theorem blanks_long (s : ByteArray) (p : Option Addr) (n c : Nat) (w : World) (h : 200 < s.size ∨ 20 < n) :
    Calls Tryd.prog 7 #[.string s, .slice p n c] w fun e w' => e = .returned (.bool true) ∧ Below w.heap.size w w' := by
  have HB := Lib.hid (Below.refl w.heap.size w)
  by_cases h1 : 200 < s.size
  · have h1I : (200 : Int) < (s.size : Int) := by omega
    clear h h1
    go_enter Tryd.func7, Tryd.ntmps7
    go_wp2_with fail
    go_ret
    exact ⟨rfl, HB.out⟩
  · have h2I : (20 : Int) < (n : Int) := by omega
    have h1I : ¬ (200 : Int) < (s.size : Int) := by omega
    have h1D : decide ((200 : Int) < (s.size : Int)) = false := by simpa using h1I
    clear h h1
    go_enter Tryd.func7, Tryd.ntmps7
    go_wp2_with fail
    go_ret
    exact ⟨rfl, HB.out⟩
set_option maxRecDepth 8000 in
set_option maxHeartbeats 2000000 in
theorem blanks_short (l : B) (p : Option Addr) (n c : Nat) (vs : Vars) (w : World) (hl : l.length ≤ 200) (hv : VarsAt w (.slice p n c) vs) (hg : GlobA w) (h7 : 7 ≤ w.heap.size) :
    Calls Tryd.prog 7 #[.string (tx l), .slice p n c] w fun e w' => e = .returned (.bool true) ∧ Below w.heap.size w w' := by
  obtain ⟨hn, h20⟩ := hv.len
  have HEV := Lib.hid (fun (x : B) (hx : x.length ≤ 5000) (W : World) (hb : Below w.heap.size w W) => eval_any x hx vs (.slice p n c) W (hv.below (Nat.le_refl _) hb) (hg.below hb) (Nat.le_trans h7 hb.size))
  have HKN := Lib.hid (fun (W : World) (hb : Below w.heap.size w W) => known_any W (hg.below hb) (Nat.le_trans h7 hb.size))
  have HB0 := Lib.hid (Below.refl w.heap.size w)
  obtain ⟨r, hr⟩ : ∃ r, evalM vs l = r := ⟨_, rfl⟩
  have HE1 := Lib.hid (HEV.out l (by omega) w HB0.out)
  have HE2 := Lib.hid (fun W hb => HEV.out (32 :: 9 :: (l ++ [32, 10])) (by simp; omega) W hb)
  have HE3 := Lib.hid (fun W hb => HEV.out (40 :: (l ++ [41])) (by simp; omega) W hb)
  rw [eval_blank] at HE2
  have hp := eval_paren vs l
  rw [hr] at HE1 HE2 hp
  have HC2 := Lib.hid (show (⟨#[32, 9]⟩ : ByteArray) ++ tx l ++ ⟨#[32, 10]⟩ = tx (32 :: 9 :: (l ++ [32, 10])) from by
    show tx [32, 9] ++ tx l ++ tx [32, 10] = _
    rw [tx_append, tx_append]; rfl)
  have HC3 := Lib.hid (show (⟨#[40]⟩ : ByteArray) ++ tx l ++ ⟨#[41]⟩ = tx (40 :: (l ++ [41])) from by
    show tx [40] ++ tx l ++ tx [41] = _
    rw [tx_append, tx_append]; rfl)
  have hsz := tx_size l
  have h1I : ¬ (200 : Int) < ((tx l).size : Int) := by omega
  have h2I : ¬ (20 : Int) < (n : Int) := by omega
  have h1D : decide ((200 : Int) < ((tx l).size : Int)) = false := by simpa using h1I
  have h2D : decide ((20 : Int) < (n : Int)) = false := by simpa using h2I
  obtain ⟨q, hq⟩ : ∃ q, evalM vs (40 :: (l ++ [41])) = q := ⟨_, rfl⟩
  rw [hq] at HE3 hp
  generalize tx l = s at *
  obtain ⟨s2, hs2⟩ : ∃ s2, tx (32 :: 9 :: (l ++ [32, 10])) = s2 := ⟨_, rfl⟩
  obtain ⟨s3, hs3⟩ : ∃ s2, tx (40 :: (l ++ [41])) = s2 := ⟨_, rfl⟩
  rw [hs2] at HE2 HC2
  rw [hs3] at HE3 HC3
  have hz1 : ¬ 9223372036854775807 < (s.size : Int) + 2 := by omega
  clear hr hq hv hg h7 hl hn h20 hs2 hs3 HEV hsz
  obtain ⟨r1, r2⟩ := r
  obtain ⟨q1, q2⟩ := q
  by_cases h2 : r2 = 2
  · subst h2
    clear hp
    go_enter Tryd.func7, Tryd.ntmps7
    go_wp2_with (first
      | (rw [HC2.out]; go_at_call 8; refine (HE2.out _ HB1.out).mono ?_; rintro e w2 ⟨rfl, hb2⟩; have HB2 := Lib.hid (HB1.out.trans (hb2.mono HB1.out.size)); clear hb2)
      | (rw [HC3.out]; go_at_call 8; refine (HE3.out _ HB2.out).mono ?_; rintro e w3 ⟨rfl, hb3⟩; have HB3 := Lib.hid (HB2.out.trans (hb3.mono HB2.out.size)); clear hb3)
      | (go_at_call 8; (with_reducible refine HE1.out.mono ?_); rintro e w1 ⟨rfl, hb1⟩; have HB1 := Lib.hid hb1; clear hb1)
      | (go_at_call 10; refine (HKN.out _ HB3.out).mono ?_; rintro e w4 ⟨rfl, hb4⟩; have HB4 := Lib.hid (HB3.out.trans (hb4.mono HB3.out.size)); clear hb4))
    go_ret
    exact ⟨rfl, HB4.out⟩
  · obtain ⟨rfl, rfl⟩ := Prod.mk.inj (hp h2)
    have h2b : (q2 == 2) = false := by simpa using h2
    clear hp h2
    go_enter Tryd.func7, Tryd.ntmps7
    go_wp2_with (first
      | (rw [HC2.out]; go_at_call 8; refine (HE2.out _ HB1.out).mono ?_; rintro e w2 ⟨rfl, hb2⟩; have HB2 := Lib.hid (HB1.out.trans (hb2.mono HB1.out.size)); clear hb2)
      | (rw [HC3.out]; go_at_call 8; refine (HE3.out _ HB2.out).mono ?_; rintro e w3 ⟨rfl, hb3⟩; have HB3 := Lib.hid (HB2.out.trans (hb3.mono HB2.out.size)); clear hb3)
      | (go_at_call 8; (with_reducible refine HE1.out.mono ?_); rintro e w1 ⟨rfl, hb1⟩; have HB1 := Lib.hid hb1; clear hb1)
      | (go_at_call 10; refine (HKN.out _ HB3.out).mono ?_; rintro e w4 ⟨rfl, hb4⟩; have HB4 := Lib.hid (HB3.out.trans (hb4.mono HB3.out.size)); clear hb4))
    go_ret
    exact ⟨rfl, HB4.out⟩
theorem blanks_law (s : ByteArray) (p : Option Addr) (n c : Nat) (w : World) (hv : n ≤ 20 → ∃ vs, VarsAt w (.slice p n c) vs) (hg : GlobA w) (h7 : 7 ≤ w.heap.size) :
    Calls Tryd.prog 7 #[.string s, .slice p n c] w fun e w' => e = .returned (.bool true) ∧ Below w.heap.size w w' := by
  by_cases h : 200 < s.size ∨ 20 < n
  · exact blanks_long s p n c w h
  · obtain ⟨vs, hvs⟩ := hv (by omega)
    have := blanks_short s.data.toList p n c vs w (by rw [← Lib.size_eq]; omega) hvs hg h7
    rwa [tx_of] at this
end Go.Proofs.YtlgbfhjbfolibaaDoor
