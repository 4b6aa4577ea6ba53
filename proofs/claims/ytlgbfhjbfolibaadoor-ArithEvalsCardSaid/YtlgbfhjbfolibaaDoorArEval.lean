/-
  Proved: the contract of arith's Eval. Conditions: at most 5000 bytes, at most 20 bindings, as whoever reads them; the library's two sentinel errors read as laid.
-/
import Derived.Test.YtlgbfhjbfolibaaDoorArExpr
namespace Go.Proofs.YtlgbfhjbfolibaaDoor
open Go Go.Shelf Go.RowKit ArMath

theorem more_ok {vs : Vars} : ∀ (f : Nat) (t : B) (s s' : St), moreF vs f t s = some s' → binN s.signs + 1 ≤ s.nums.length → s'.nums ≠ []
  | 0, t, s, s', h, _ => by simp [moreF] at h
  | f + 1, t, s, s', h, hb => by
    have hbn : ∀ l, 1 ≤ l → binN (s.reck l).signs + 1 ≤ (s.reck l).nums.length := fun l hl => reck_bin l hl s.signs s.nums s.bad hb
    unfold moreF at h
    split at h
    · split at h
      · cases h
      · rename_i h1 _ x S hS
        have h2 := hbn 1 (by decide)
        rw [hS] at h2
        refine more_ok f _ _ s' h ?_
        show binN S + 1 ≤ (s.reck 1).nums.length
        obtain ⟨a, b⟩ := x
        have : binN S ≤ binN ((a, b) :: S) := Nat.le_add_left _ _
        omega
    split at h
    · split at h
      · cases h
        have h2 := hbn 1 (by decide)
        exact fun e => by rw [e] at h2; simp at h2
      · cases h
    split at h
    · cases h
    split at h
    · cases h
    split at h
    · cases h
    · rename_i s2 ho
      obtain ⟨-, q2, q3, -⟩ := oper_ok _ _ _ ho
      refine more_ok f _ _ s' h ?_
      have h2 := hbn (max (lev t) 2) (by omega)
      show binN s2.signs + 1 ≤ s2.nums.length
      rw [q2, q3]
      show (if lev t = 4 ∨ lev t = 0 then 0 else 1) + binN (s.reck (max (lev t) 2)).signs + 1 ≤ (s.reck (max (lev t) 2)).nums.length + 1
      split <;> omega
theorem expr_ok {vs : Vars} {f : Nat} {s s' : St} (h : exprF vs f s = some s') (hb : binN s.signs ≤ s.nums.length) : s'.nums ≠ [] := by
  unfold exprF at h
  split at h
  · cases h
  · rename_i s2 ho
    obtain ⟨-, q2, q3, -⟩ := oper_ok _ _ _ ho
    exact more_ok _ _ _ _ h (by show binN s2.signs + 1 ≤ s2.nums.length; omega)
set_option maxRecDepth 8000 in
set_option maxHeartbeats 2000000 in
theorem eval_any (l : B) (hl : l.length ≤ 5000) (vs : Vars) (vv : Value) (w : World) (hv : VarsAt w vv vs) (hg : GlobA w) (h7 : 7 ≤ w.heap.size) :
    Calls Tryd.prog 8 #[.string (tx l), vv] w fun e w' => e = .returned (.tuple #[.int .i64 (evalM vs l).1, .int .i64 (evalM vs l).2]) ∧ Below w.heap.size w w' := by
  obtain ⟨vp, vc, hvv, -⟩ := id hv
  obtain ⟨VL, hVL⟩ : ∃ n, vs.length = n := ⟨_, rfl⟩
  rw [hVL] at hvv
  subst hvv
  obtain ⟨X, hX⟩ : ∃ X, w.heap.size = X := ⟨_, rfl⟩
  obtain ⟨W, hW⟩ : ∃ W, w.alloc (.cells #[.string (tx l), .slice vp VL vc, .map none, .slice none 0 0, .slice none 0 0, .bool false] 46) = W := ⟨_, rfl⟩
  have hWh : W.heap[X]? = some (.cells #[.string (tx l), .slice vp VL vc, .map none, .slice none 0 0, .slice none 0 0, .bool false] 46 (0, 0)) := by rw [← hW, ← hX]; exact heap_alloc_new w _
  have hbW : Below X w W := by rw [← hW, ← hX]; exact (Below.refl _ w).alloc (Nat.le_refl _) _
  have hk : Rk W X vs (.slice vp VL vc) (.map none) (.slice none 0 0) (.slice none 0 0) ⟨l, [], [], false⟩ := ⟨hWh, ⟨World.ownsRow_nil _ _ _ _, World.ownsRow_nil _ _ _ _, fun k h => by simp [Value.ownBlock] at h, .inl rfl, fun x h => by cases h⟩⟩
  have HEX := Lib.hid (expr_any (vs := vs) (s := ⟨l, [], [], false⟩) (w := W) ⟨by simp; omega, by simp; omega⟩ (by simp [binN]) hk (by omega) (fun V hV => hv.below (by omega) (hbW.trans hV)) (hg.from (by omega) hbW))
  have HB := Lib.hid hbW
  obtain ⟨R, hR⟩ : ∃ R, exprF vs (l.length + 2) ⟨l, [], [], false⟩ = R := ⟨_, rfl⟩
  have HOK := Lib.hid (fun s' (h : R = some s') => expr_ok (hR.trans h) (by simp [binN]))
  have he : evalM vs l = outM R := by rw [← hR]; rfl
  simp only [hR] at HEX
  rw [he]
  have HT : Hid (tx l = tx l) := rfl
  obtain ⟨T, hT⟩ : ∃ T, tx l = T := ⟨_, rfl⟩
  rw [hT] at hW ⊢
  rw [hX]
  have HW := Lib.hid hW
  have HX := Lib.hid hX
  clear hWh hbW hk hR he hT hv hg hl h7 HT hVL
  cases R with
  | none =>
    clear hW hX
    go_enter Tryd.func8, Tryd.ntmps8
    go_wp2_with (first
      | (go_at_call 14; rw [HW.out, HX.out]; (refine HEX.out.mono ?_); rintro e w1 ⟨rfl, hb1, -⟩; have HB1 := Lib.hid (HB.out.trans hb1); clear hb1))
    go_ret2
    exact ⟨rfl, HB1.out⟩
  | some s2 =>
    clear hW hX
    obtain ⟨left, N, S, bd⟩ := s2
    have hN := HOK.out _ rfl
    simp only at hN
    cases N with
    | nil => exact absurd rfl hN
    | cons n N =>
      clear hN
      cases bd
      all_goals
        go_enter Tryd.func8, Tryd.ntmps8
        go_wp2_with (first
          | (go_at_call 14; rw [HW.out, HX.out]; (refine HEX.out.mono ?_); rintro e w1 ⟨rfl, hb1, hk1⟩; obtain ⟨m1, n1, s1, hk1⟩ := hk1 _ rfl; obtain ⟨-, -, -, -, -, c5, -⟩ := ar_cell hk1.blk; have HB1 := Lib.hid (HB.out.trans hb1); have HK1 := Lib.hid hk1; clear hb1 hk1)
          | (go_at_call 15; (refine (take_any HK1.out rfl).mono ?_); rintro e w2 ⟨rfl, -, hb2, -⟩; have HB2 := Lib.hid (HB1.out.trans hb2); clear hb2))
        go_ret2
        first | exact ⟨rfl, HB2.out⟩ | exact ⟨rfl, HB1.out⟩
end Go.Proofs.YtlgbfhjbfolibaaDoor
