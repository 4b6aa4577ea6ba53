/-
  Proved: plain facts on what the statements' own reckoner takes, token by token. Conditions: as each says.
-/
import Derived.Test.YtlgbfhjbfolibaaDoorArRefVal
import Derived.Test.YtlgbfhjbfolibaaDoorGlyphRefN
namespace Go.Proofs.YtlgbfhjbfolibaaDoor
open Go Go.RowKit ArMath GlyphMath

/-- An operand: what it comes to. -/
def UOk (vs : Vars) (r : B) (m : Bool) (r' : B) (m' : Bool) (v : Int) : Prop := r'.length < r.length ∧ (skipB r).head? ≠ some 61 ∧ ∀ N S, runM vs r N S m = contM vs r' (v :: N) S m'
def POk (vs : Vars) (r : B) (m : Bool) (r' : B) (m' : Bool) (v : Int) : Prop := r'.length < r.length ∧ lev (tokB r') ≤ 2 ∧ ∀ N S, lastL S ≤ 2 → runM vs r N S m = contM vs r' (v :: N) S m'
def SOk (vs : Vars) (r : B) (m : Bool) (r' : B) (m' : Bool) (v : Int) : Prop := r'.length < r.length ∧ lev (tokB r') ≤ 1 ∧ ∀ N S, lastL S ≤ 1 → runM vs r N S m = contM vs r' (v :: N) S m'
def EOk (vs : Vars) (r : B) (m : Bool) (r' : B) (m' : Bool) (v : Int) : Prop := r'.length < r.length ∧ ∀ N S, lastL S = 0 → runM vs r N S m = clM vs r' (v :: N) S m'
def UNo (vs : Vars) (r : B) (m : Bool) : Prop := ∀ N S, runM vs r N S m = none
def PNo (vs : Vars) (r : B) (m : Bool) : Prop := ∀ N S, lastL S ≤ 2 → runM vs r N S m = none
def SNo (vs : Vars) (r : B) (m : Bool) : Prop := ∀ N S, lastL S ≤ 1 → runM vs r N S m = none
def ENo (vs : Vars) (r : B) (m : Bool) : Prop := ∀ N S, lastL S = 0 → runM vs r N S m = none
/-- What is answered, where the reckoner then stands, and what that says. -/
def Res (w : World) (X : Nat) (l : B) (vv : Value) (r : B) (f : Bool) (Ok : B → Bool → Int → Prop) (No : Prop) (e : Ending) (w' : World) : Prop :=
  ∃ v r' f' m', e = .returned (.int .i64 v) ∧ I64 v ∧ r'.length ≤ r.length ∧ Rf w' X l vv r' f' m' ∧ Below X w w' ∧ (f' = true → f = false → No) ∧ (f' = false → f = false ∧ Ok r' m' v)
/-- What lies around it. -/
def Env (w : World) (X : Nat) (vv : Value) (vs : Vars) : Prop := ∀ W, Below X w W → VarsAt W vv vs ∧ Tabs W
theorem Env.step {w w' : World} {X : Nat} {vv : Value} {vs : Vars} (h : Env w X vv vs) (hb : Below X w w') : Env w' X vv vs := fun W hW => h W (hb.trans hW)
theorem Env.here {w : World} {X : Nat} {vv : Value} {vs : Vars} (h : Env w X vv vs) : VarsAt w vv vs ∧ Tabs w := h w (Below.refl X w)

section
variable {vs : Vars} {r q : B} {m : Bool}
theorem tok_one {c : UInt8} (hK : skipB r = c :: q) (h : behB (c :: q) = q) : tokB r = [c] ∧ leftB r = q := by
  unfold tokB leftB
  rw [hK, h]
  exact ⟨by rw [List.length_cons, show q.length + 1 - q.length = 1 by omega]; rfl, rfl⟩
theorem beh_sign {c : UInt8} (h1 : digC c = false) (h2 : firC c = false) (h3 : ∀ d, q.head? = some d → lev [c, d] = 0) : behB (c :: q) = q := by
  rw [beh_cons, h1, h2, if_neg (by simp), if_neg (by simp)]
  cases q with
  | nil => rfl
  | cons d s => show (if lev [c, d] = 0 then d :: s else s) = _; rw [if_pos (h3 d rfl)]
theorem tok_neg (hK : skipB r = 45 :: q) : tokB r = [45] ∧ leftB r = q := tok_one hK (beh_sign (by decide) (by decide) fun d _ => by simp [lev])
theorem tok_open (hK : skipB r = 40 :: q) : tokB r = [40] ∧ leftB r = q := tok_one hK (beh_sign (by decide) (by decide) fun d _ => by simp [lev])
theorem tok_not (hK : skipB r = 33 :: q) (hq : q.head? ≠ some 61) : tokB r = [33] ∧ leftB r = q := tok_one hK (beh_sign (by decide) (by decide) fun d hd => by
  have : d ≠ 61 := fun e => hq (e ▸ hd)
  simp [lev, this])
theorem tok_two {c d : UInt8} (hK : skipB r = c :: d :: q) (h1 : digC c = false) (h2 : firC c = false) (h3 : lev [c, d] ≠ 0) : tokB r = [c, d] ∧ leftB r = q := by
  have h : behB (c :: d :: q) = q := by
    rw [beh_cons, h1, h2, if_neg (by simp), if_neg (by simp)]
    show (if lev [c, d] = 0 then d :: q else q) = _; rw [if_neg h3]
  unfold tokB leftB
  rw [hK, h]
  exact ⟨by rw [List.length_cons, List.length_cons, show q.length + 1 + 1 - q.length = 2 by omega]; rfl, rfl⟩
theorem no_noteq (hK : skipB r = 33 :: q) (hq : q.head? = some 61) : UNo vs r m := by
  intro N S
  cases q with
  | nil => cases hq
  | cons d s =>
    cases hq
    have := (tok_two hK (by decide) (by decide) (by decide)).1
    exact run_none (by rw [this]; exact ⟨by decide, by decide, by decide, by decide⟩)
theorem skip_len (r : B) : (skipB r).length ≤ r.length := drop_le _ _
/-! A sign ahead. -/
theorem neg_ok {r' : B} {m' : Bool} {v : Int} (hK : skipB r = 45 :: q) (h : UOk vs q m r' m' v) : UOk vs r m r' (m' || !inR (0 - v)) (wr (0 - v)) := by
  have hl := skip_len r
  rw [hK] at hl
  refine ⟨by have := h.1; simp at hl; omega, by rw [hK]; simp, fun N S => ?_⟩
  obtain ⟨h1, h2⟩ := tok_neg hK
  rw [run_sign (.inl h1), h1, h2, h.2.2, cont_one]
  show contM vs r' (wr (-v) :: N) S (m' || !inR (-v)) = _
  rw [show 0 - v = -v by omega]
theorem neg_no (hK : skipB r = 45 :: q) (h : UNo vs q m) : UNo vs r m := by
  intro N S
  obtain ⟨h1, h2⟩ := tok_neg hK
  rw [run_sign (.inl h1), h2]
  exact h _ _
theorem not_ok {r' : B} {m' : Bool} {v : Int} (hK : skipB r = 33 :: q) (hq : q.head? ≠ some 61) (h : UOk vs q m r' m' v) : UOk vs r m r' m' (truV (decide (v = 0))) := by
  have hl := skip_len r
  rw [hK] at hl
  refine ⟨by have := h.1; simp at hl; omega, by rw [hK]; simp, fun N S => ?_⟩
  obtain ⟨h1, h2⟩ := tok_not hK hq
  rw [run_sign (.inr h1), h1, h2, h.2.2, cont_one]
  show contM vs r' (truV (decide (v = 0)) :: N) S (m' || !true) = _
  simp
theorem not_no (hK : skipB r = 33 :: q) (h : UNo vs q m) : UNo vs r m := by
  by_cases hq : q.head? = some 61
  · exact no_noteq hK hq
  intro N S
  obtain ⟨h1, h2⟩ := tok_not hK hq
  rw [run_sign (.inr h1), h2]
  exact h _ _
theorem head_skip (h : (skipB q).head? ≠ some 61) : q.head? ≠ some 61 := by
  intro e
  cases q with
  | nil => cases e
  | cons d s =>
    cases e
    rw [skip_cons_f (by decide)] at h
    exact h rfl
theorem open_ok {r1 r' : B} {m' : Bool} {v : Int} (hK : skipB r = 40 :: q) (h : EOk vs q m r1 m' v) (hs : skipB r1 = 41 :: r') : UOk vs r m r' m' v := by
  have hl := skip_len r
  rw [hK] at hl
  have hl1 := skip_len r1
  rw [hs] at hl1
  refine ⟨by have := h.1; simp at hl hl1; omega, by rw [hK]; simp, fun N S => ?_⟩
  obtain ⟨h1, h2⟩ := tok_open hK
  obtain ⟨k1, k2⟩ := tok_one hs (beh_sign (by decide) (by decide) fun d _ => by simp [lev])
  rw [run_open h1, h2, h.2 _ _ rfl, clM, k1, if_pos rfl, k2]
theorem open_no (hK : skipB r = 40 :: q) (h : ENo vs q m) : UNo vs r m := by
  intro N S
  obtain ⟨h1, h2⟩ := tok_open hK
  rw [run_open h1, h2]
  exact h _ _ rfl
theorem tok_head {c : UInt8} (hK : skipB r = c :: q) : ∃ t, tokB r = c :: t := by
  have h1 := beh_lt c q
  unfold tokB
  rw [hK, List.length_cons]
  obtain ⟨n, hn⟩ : ∃ n, q.length + 1 - (behB (c :: q)).length = n + 1 := ⟨q.length - (behB (c :: q)).length, by omega⟩
  rw [hn, List.take_succ_cons]
  exact ⟨_, rfl⟩
theorem open_odd {r1 : B} {m' : Bool} {v : Int} (hK : skipB r = 40 :: q) (h : EOk vs q m r1 m' v) (hs : [41].isPrefixOf (skipB r1) = false) : UNo vs r m := by
  intro N S
  obtain ⟨h1, h2⟩ := tok_open hK
  rw [run_open h1, h2, h.2 _ _ rfl, clM]
  have hne : tokB r1 ≠ [41] := by
    intro e
    cases hk : skipB r1 with
    | nil => unfold tokB at e; rw [hk] at e; cases e
    | cons c s =>
      obtain ⟨t, ht⟩ := tok_head hk
      rw [ht] at e
      cases e
      rw [hk] at hs
      simp at hs
  rw [if_neg hne]
  split
  · rw [if_neg (by simp)]
  · rfl
theorem dig_ok {c : UInt8} (hK : skipB r = c :: q) (hc : digC c = true) : leftB r = (skipB r).dropWhile digC ∧ UOk vs r m (leftB r) (m || !(numM (tokB r)).2) (numM (tokB r)).1 := by
  obtain ⟨t, ht⟩ := tok_head hK
  refine ⟨?_, tok_lt (by rw [ht]; simp), ?_, fun N S => run_dig (by rw [ht]; exact hc)⟩
  · unfold leftB
    rw [hK]
    show (if digC c then (c :: q).dropWhile digC else _) = _
    rw [if_pos hc]
  · rw [hK]
    intro e
    cases e
    exact absurd hc (by decide)
theorem name_ok {c : UInt8} (hK : skipB r = c :: q) (hc : digC c = false) (hf : firC c = true) : leftB r = (skipB r).dropWhile morC ∧ (nameB (tokB r) = true → UOk vs r m (leftB r) (m || !(envM vs (tokB r)).2) (envM vs (tokB r)).1) ∧ (nameB (tokB r) = false → UNo vs r m) := by
  obtain ⟨t, ht⟩ := tok_head hK
  have hd : digsB (tokB r) = false := by rw [ht]; exact hc
  refine ⟨?_, fun hn => ⟨tok_lt (by rw [ht]; simp), ?_, fun N S => run_name hd hn⟩, fun hn N S => run_none ⟨?_, ?_, hd, hn⟩⟩
  · unfold leftB
    rw [hK]
    show (if digC c then (c :: q).dropWhile digC else if firC c then (c :: q).dropWhile morC else signB c q) = _
    rw [if_neg (by rw [hc]; simp), if_pos hf]
  · rw [hK]
    intro e
    cases e
    exact absurd hf (by decide)
  · rw [ht]
    rintro (e | e) <;> cases e <;> exact absurd hf (by decide)
  · rw [ht]
    intro e; cases e; exact absurd hf (by decide)
theorem none_no (h : skipB r = []) : UNo vs r m := fun N S => run_none (by
  have : tokB r = [] := by unfold tokB; rw [h]; rfl
  rw [this]; exact nil_none vs)
theorem odd_no {c : UInt8} (hK : skipB r = c :: q) (hd : digC c = false) (hf : firC c = false) (h1 : c ≠ 45) (h2 : c ≠ 33) (h3 : c ≠ 40) : UNo vs r m := by
  obtain ⟨t, ht⟩ := tok_head hK
  refine fun N S => run_none ⟨?_, ?_, ?_, ?_⟩
  · rw [ht]; rintro (e | e) <;> cases e <;> contradiction
  · rw [ht]; intro e; cases e; contradiction
  · rw [ht]; exact hd
  · rw [ht]; show (firC c && _ && _) = false; rw [hf]; rfl
end
end Go.Proofs.YtlgbfhjbfolibaaDoor
