/-
  Proved: the contract of the statements' own Eval, over the model of the program's; the law ArithEvals answers true, and changes nothing. Conditions: at most 5000 bytes; its bindings lie in memory; the library's tables lie as they should.
-/
import Derived.Test.YtlgbfhjbfolibaaDoorArCmp
import Derived.Test.YtlgbfhjbfolibaaDoorArKnown
namespace Go.Proofs.YtlgbfhjbfolibaaDoor
open Go Go.RowKit ArMath GlyphMath

section
variable {l : B} {vv : Value} {vs : Vars} {X : Nat}
theorem all_at (hl : l.length ≤ 2147483648) : ∀ n, UAt vs l vv X n ∧ EAt vs l vv X n
  | 0 => ⟨fun _ _ _ _ h => absurd h (by omega), fun _ _ _ _ h => absurd h (by omega)⟩
  | n + 1 => by
    obtain ⟨hU, hE⟩ := all_at hl n
    have hU' := unary_any hl hU hE
    exact ⟨hU', expr_ref hl (sum_any hl (prod_any hl hU'))⟩
theorem cl_odd {p : B} {N : List Int} {m : Bool} (h : skipB p ≠ []) : clM vs p N [] m = none := by
  have ht : tokB p ≠ [] := fun e => h (tok_nil e).1
  unfold clM
  by_cases h41 : tokB p = [41]
  · rw [if_pos h41]
  · rw [if_neg h41, if_neg ht]
theorem cl_end {p : B} {N : List Int} {m : Bool} (h : skipB p = []) : clM vs p N [] m = some ⟨leftB p, N, [], m⟩ := by
  have ht : tokB p = [] := by unfold tokB; rw [h]; rfl
  unfold clM
  rw [if_neg (by rw [ht]; simp), if_pos ht, if_pos rfl]
theorem ends_at {R : Int × Int} {a LL : Int} {p : B} {fx mx : Bool} {i : Nat} (hR : outM (runM vs l [] [] false) = R) (hno : fx = true → false = false → ENo vs l false) (hok : fx = false → false = false ∧ EOk vs l false p mx a) (hd : l.drop i = skipB p) (hi : i ≤ l.length) (hL : (l.length : Int) = LL) :
    (fx = true ∧ nextB fx p = 0 ∧ R = (0, 2)) ∨ (fx = false ∧ ((i : Int) < LL) ∧ R = (0, 2)) ∨ (fx = false ∧ nextB fx p = 0 ∧ (i : Int) = LL ∧ R = if mx then (0, 6) else (a, 0)) := by
  cases fx with
  | true => exact .inl ⟨rfl, rfl, by rw [← hR, hno rfl rfl [] [] rfl]; rfl⟩
  | false =>
    have h := (hok rfl).2.2 [] [] rfl
    right
    cases hk : skipB p with
    | nil =>
      rw [hk] at hd
      have := drop_end hd hi
      refine .inr ⟨rfl, by unfold nextB; rw [hk]; rfl, by omega, ?_⟩
      rw [← hR, h, cl_end hk]
      cases mx <;> rfl
    | cons c q =>
      rw [hk] at hd
      obtain ⟨-, -, -, hil⟩ := drop_get hd
      refine .inl ⟨rfl, by omega, ?_⟩
      rw [← hR, h, cl_odd (by rw [hk]; simp)]
      rfl
set_option maxRecDepth 100000 in
set_option maxHeartbeats 4000000 in
theorem reval_any (hl : l.length ≤ 5000) (w : World) (hv : VarsAt w vv vs) (hT : Tabs w) :
    Calls Tryd.prog 9 #[.string (tx l), vv] w fun e w' => e = .returned (.tuple #[.int .i64 (evalM vs l).1, .int .i64 (evalM vs l).2]) ∧ Below w.heap.size w w' := by
  obtain ⟨vp, vc, hvv, -⟩ := id hv
  obtain ⟨VL, hVL⟩ : ∃ n, vs.length = n := ⟨_, rfl⟩
  rw [hVL] at hvv
  subst hvv
  obtain ⟨X, hX⟩ : ∃ X, w.heap.size = X := ⟨_, rfl⟩
  obtain ⟨W, hW⟩ : ∃ W, w.alloc (.cells #[.string (tx l), .int .i64 0, .slice vp VL vc, .bool false, .bool false] 50) = W := ⟨_, rfl⟩
  have hWh : RfB W X (tx l) ((0 : Nat) : Int) (.slice vp VL vc) false false := by rw [← hW, ← hX]; exact heap_alloc_new w _
  have hbW : Below X w W := by rw [← hW, ← hX]; exact (Below.refl _ w).alloc (Nat.le_refl _) _
  have hk : Rf W X l (.slice vp VL vc) l false false := ⟨0, hWh, rfl, Nat.zero_le _⟩
  have he : Env W X (.slice vp VL vc) vs := fun V hV => ⟨hv.below (by omega) (hbW.trans hV), hT.below (by rw [hX]; exact hbW.trans hV)⟩
  have HEX := Lib.hid ((all_at (vs := vs) (X := X) (vv := .slice vp VL vc) (l := l) (by omega) (l.length + 1)).2 W l false false (by omega) he hk)
  have HB := Lib.hid hbW
  obtain ⟨R, hR⟩ : ∃ R, evalM vs l = R := ⟨_, rfl⟩
  have hR2 : outM (runM vs l [] [] false) = R := hR
  have HR := Lib.hid hR2
  have HS := Lib.hid (show l.length ≤ 2147483648 by omega)
  have hsz : ((tx l).size : Int) = (l.length : Int) := by rw [tx_size]
  rw [hR]
  rw [hX]
  have HW := Lib.hid hW
  have HX := Lib.hid hX
  clear hWh hbW hk he hR hR2 hv hT hl hVL
  obtain ⟨LL, hLL⟩ : ∃ L : Int, (l.length : Int) = L := ⟨_, rfl⟩
  have HLL := Lib.hid hLL
  rw [hLL] at hsz
  obtain ⟨TL, hTL⟩ : ∃ T, tx l = T := ⟨_, rfl⟩
  have HTL := Lib.hid hTL
  rw [hTL] at hsz hW ⊢
  clear hW hX hLL hTL
  have HW := Lib.hid (show w.alloc (.cells #[.string TL, .int .i64 0, .slice vp VL vc, .bool false, .bool false] 50) = W from HTL.out ▸ HW.out)
  go_enter Tryd.func9, Tryd.ntmps9
  go_wp2_with (first
    | (go_at_call 16; rw [HW.out, HX.out]; (refine HEX.out.mono ?_); rintro e w1 ⟨a, p, fx, mx, rfl, hI, hle, hq, hb, hno, hok⟩; have HQ := Lib.hid hq; have HB1 := Lib.hid (HB.out.trans hb); have HEND := Lib.hid (fun (i : Nat) (hd : l.drop i = skipB p) (hi : i ≤ l.length) => ends_at HR.out hno hok hd hi HLL.out); have HSK := Lib.hid (rskip_any HS.out hq); clear hI hle hq hb hno hok)
    | (go_at_call 17; (with_reducible refine HSK.out.mono ?_); rintro e w2 ⟨rfl, hq2, hb2⟩; obtain ⟨i, hB, hd, hi⟩ := hq2; have HB2 := Lib.hid (HB1.out.trans hb2); have HD := Lib.hid (And.intro hB (And.intro hd hi)); clear hB hd hi hb2;
       have hend : (fx = true ∧ nextB fx p = 0 ∧ R = (0, 2)) ∨ (fx = false ∧ ((i : Int) < LL) ∧ R = (0, 2)) ∨ (fx = false ∧ nextB fx p = 0 ∧ (i : Int) = LL ∧ R = if mx then (0, 6) else (a, 0)) := HEND.out i HD.out.2.1 HD.out.2.2;
       obtain ⟨-, c1, -, c3, c4, hfz⟩ := rf_cell HD.out.1; have f3 := hfz 3; clear hfz;
       obtain ⟨z, hz⟩ : ∃ z, nextB fx p = z := ⟨_, rfl⟩; rw [hz] at hend; rw [hz]; clear hz;
       rcases hend with ⟨rfl, rfl, hRR⟩ | ⟨rfl, hlt, hRR⟩ | ⟨rfl, rfl, heq, hRR⟩))
  all_goals
    go_ret2
    first
      | refine ⟨by rw [hRR]; rfl, ?_⟩
      | refine ⟨by rw [hRR, if_pos (by assumption)]; rfl, ?_⟩
      | refine ⟨by rw [hRR, if_neg (by simp [show mx = false by assumption])]; rfl, ?_⟩
      | refine ⟨by rw [hRR, if_neg (by simp_all)]; rfl, ?_⟩
    first | exact HB2.out | exact rf_below HB2.out
end

theorem evals_long (s : ByteArray) (p : Option Addr) (n c : Nat) (w : World) (h : 200 < s.size ∨ 20 < n) :
    Calls Tryd.prog 3 #[.string s, .slice p n c] w fun e w' => e = .returned (.bool true) ∧ Below w.heap.size w w' := by
  rcases h with h | h
  · have h1 : (200 : Int) < (s.size : Int) := by omega
    clear h
    go_enter Tryd.func3, Tryd.ntmps3
    go_wp2_with fail
    go_ret
    exact ⟨rfl, Below.refl _ _⟩
  · have h1 : (20 : Int) < (n : Int) := by omega
    clear h
    go_enter Tryd.func3, Tryd.ntmps3
    go_wp2_with fail
    all_goals
      go_ret
      exact ⟨rfl, Below.refl _ _⟩
theorem evals_short (l : B) (p : Option Addr) (n c : Nat) (vs : Vars) (w : World) (hl : l.length ≤ 200) (hn : n ≤ 20) (hv : VarsAt w (.slice p n c) vs) (hg : GlobA w) (hT : Tabs w) (h7 : 7 ≤ w.heap.size) :
    Calls Tryd.prog 3 #[.string (tx l), .slice p n c] w fun e w' => e = .returned (.bool true) ∧ Below w.heap.size w w' := by
  have HE1 := Lib.hid (eval_any l (by omega) vs (.slice p n c) w hv hg h7)
  have HE2 := Lib.hid (fun (W : World) (hb : Below w.heap.size w W) => reval_any (l := l) (by omega) W (hv.below (Nat.le_refl _) hb) (hT.below hb))
  have HKN := Lib.hid (fun (W : World) (hb : Below w.heap.size w W) => known_any W (hg.below hb) (Nat.le_trans h7 hb.size))
  have hsz : ((tx l).size : Int) ≤ 200 := by rw [tx_size]; omega
  have hn2 : (n : Int) ≤ 20 := by omega
  obtain ⟨r, hr⟩ : ∃ r, evalM vs l = r := ⟨_, rfl⟩
  rw [hr] at HE1
  simp only [hr] at HE2
  obtain ⟨r1, r2⟩ := r
  simp only at HE1 HE2
  generalize tx l = s at *
  have hs1 : ¬ (200 : Int) < (s.size : Int) := by omega
  have hs2 : ¬ (20 : Int) < (n : Int) := by omega
  clear hr hv hg hT h7 hl hn
  go_enter Tryd.func3, Tryd.ntmps3
  go_wp2_with (first
    | (go_at_call 8; (with_reducible refine HE1.out.mono ?_); rintro e w1 ⟨rfl, hb1⟩; have HB1 := Lib.hid hb1; clear hb1)
    | (go_at_call 9; (with_reducible refine (HE2.out _ HB1.out).mono ?_); rintro e w2 ⟨rfl, hb2⟩; have HB2 := Lib.hid (HB1.out.trans (hb2.mono HB1.out.size)); clear hb2)
    | (go_at_call 10; (with_reducible refine (HKN.out _ HB2.out).mono ?_); rintro e w4 ⟨rfl, hb4⟩; have HB4 := Lib.hid (HB2.out.trans (hb4.mono HB2.out.size)); clear hb4))
  go_ret
  exact ⟨rfl, HB4.out⟩
theorem evals_law (s : ByteArray) (p : Option Addr) (n c : Nat) (w : World) (hv : n ≤ 20 → ∃ vs, VarsAt w (.slice p n c) vs) (hg : GlobA w) (hT : Tabs w) (h7 : 7 ≤ w.heap.size) :
    Calls Tryd.prog 3 #[.string s, .slice p n c] w fun e w' => e = .returned (.bool true) ∧ Below w.heap.size w w' := by
  by_cases h : 200 < s.size ∨ 20 < n
  · exact evals_long s p n c w h
  · obtain ⟨vs, hvs⟩ := hv (by omega)
    have := evals_short s.data.toList p n c vs w (by rw [← Lib.size_eq]; omega) (by omega) hvs hg hT h7
    rwa [tx_of] at this
end Go.Proofs.YtlgbfhjbfolibaaDoor
