/-
  Proved: how a pattern lies in memory, what a slice of it is; contracts of is, letter. Conditions: as each says.
-/
import Derived.Test.YtpgmlbdfmcbgoaaDoorGlMath
import Derived.Test.YtpgmlbdfmcbgoaaDoorGlyphRow
import Derived.BigQuiet
import Derived.Deep.QuietTactic
namespace Go.Proofs.YtpgmlbdfmcbgoaaDoor
open Go Go.RowKit GlyphMath GlMath

/-- A row of letters, each Quoted or not. -/
structure ChAt (w : World) (v : Value) (l : List Ch) : Prop where
  is : ∃ p c, v = .slice p l.length c ∧ l.length ≤ c ∧ c ≤ maxLen ∧ ((p = none ∧ c = 0) ∨ ∃ b o, p = some ⟨b, o, none⟩ ∧ ∀ k x, l[k]? = some x → w.cell? ⟨b, o + k * 2, none⟩ = some (.int .i32 x.1) ∧ w.cell? ⟨b, o + k * 2 + 1, none⟩ = some (.bool x.2))
theorem ChAt.below {w w' : World} {v : Value} {l : List Ch} (h : ChAt w v l) (hb : Below w.heap.size w w') : ChAt w' v l := by
  obtain ⟨p, c, hv, h1, h2, h3⟩ := h.is
  refine ⟨p, c, hv, h1, h2, ?_⟩
  rcases h3 with h3 | ⟨b, o, hp, hc⟩
  · exact .inl h3
  · refine .inr ⟨b, o, hp, fun k x hk => ?_⟩
    obtain ⟨c1, c2⟩ := hc k x hk
    exact ⟨(hb.cell (World.block_lt_of_cell? w _ c1)).trans c1, (hb.cell (World.block_lt_of_cell? w _ c2)).trans c2⟩
theorem ChAt.nil (w : World) : ChAt w (.slice none 0 0) [] := ⟨none, 0, rfl, Nat.le_refl _, by decide, .inl ⟨rfl, rfl⟩⟩
theorem ChAt.few {w : World} {v : Value} {l : List Ch} (h : ChAt w v l) : l.length ≤ maxLen := by
  obtain ⟨p, c, hv, h1, h2, h3⟩ := h.is
  omega
theorem gl_add (b o j : Nat) : (⟨b, o, none⟩ : Addr).add j = ⟨b, o + j, none⟩ := by unfold Addr.add; split <;> simp_all
theorem sliced_at {a : Option Addr} {l h m s : Nat} {b o : Nat} (ha : a = some ⟨b, o, none⟩) : sliced a l h m s = .slice (some (if m = l then ⟨b, o, none⟩ else ⟨b, o + l * s, none⟩)) (h - l) (m - l) := by
  subst ha
  unfold sliced
  split
  · rfl
  · simp [gl_add]
/-- What is left from a place on. -/
theorem ChAt.drop {w : World} {p : Option Addr} {c : Nat} {l : List Ch} (h : ChAt w (.slice p l.length c) l) (k : Nat) (hk : k ≤ l.length) : ChAt w (sliced p k l.length c 2) (l.drop k) := by
  obtain ⟨p', c', hv, h1, h2, h3⟩ := h.is
  simp only [Value.slice.injEq, true_and] at hv
  obtain ⟨rfl, rfl⟩ := hv
  rcases h3 with ⟨rfl, rfl⟩ | ⟨b, o, rfl, hc⟩
  · obtain rfl : l = [] := List.eq_nil_of_length_eq_zero (by omega)
    simp only [List.length_nil, Nat.le_zero_eq] at hk
    subst hk
    exact ChAt.nil w
  · rw [sliced_at rfl]
    refine ⟨_, _, by rw [List.length_drop], by rw [List.length_drop]; omega, by omega, .inr ?_⟩
    by_cases hm : c = k
    · refine ⟨b, o, by rw [if_pos hm], fun j x hj => ?_⟩
      rw [List.getElem?_drop] at hj
      have := (List.getElem?_eq_some_iff.1 hj).1
      omega
    · refine ⟨b, o + k * 2, by rw [if_neg hm], fun j x hj => ?_⟩
      rw [List.getElem?_drop] at hj
      have := hc (k + j) x hj
      rwa [Nat.add_mul, ← Nat.add_assoc] at this
/-- What is ahead of a place. -/
theorem ChAt.take {w : World} {p : Option Addr} {c : Nat} {l : List Ch} (h : ChAt w (.slice p l.length c) l) (k : Nat) (hk : k ≤ l.length) : ChAt w (sliced p 0 k c 2) (l.take k) := by
  obtain ⟨p', c', hv, h1, h2, h3⟩ := h.is
  simp only [Value.slice.injEq, true_and] at hv
  obtain ⟨rfl, rfl⟩ := hv
  rcases h3 with ⟨rfl, rfl⟩ | ⟨b, o, rfl, hc⟩
  · obtain rfl : l = [] := List.eq_nil_of_length_eq_zero (by omega)
    simp only [List.length_nil, Nat.le_zero_eq] at hk
    subst hk
    exact ChAt.nil w
  · rw [sliced_at rfl]
    refine ⟨_, _, by rw [List.length_take, Nat.min_eq_left hk]; rfl, by rw [List.length_take]; omega, by omega, .inr ?_⟩
    refine ⟨b, o, by simp, fun j x hj => hc j x ?_⟩
    rw [List.getElem?_take] at hj
    split at hj
    · exact hj
    · cases hj
/-- A Char by value. -/
def chV (c : Ch) : Value := .agg #[.int .i32 c.1, .bool c.2]
theorem is_any (c : Ch) (x : Int) (w : World) :
    Calls Tryd.prog 19 #[.agg #[.int .i32 c.1, .bool c.2], .int .i32 x] w fun e w' => e = .returned (.bool (isM c x)) ∧ Below w.heap.size w w' := by
  obtain ⟨r, q⟩ := c
  have hb : Below w.heap.size w (w.alloc (.cells #[.int .i32 r, .bool q] 35)) := (Below.refl _ w).alloc (Nat.le_refl _) _
  have HB := Lib.hid hb
  clear hb
  by_cases h : r = x
  · subst h
    have hM : isM (r, q) r = !q := by simp [isM]
    rw [hM]
    clear hM
    cases q
    all_goals
      go_enter Tryd.func19, Tryd.ntmps19
      go_wp2_with fail
      go_ret
      exact ⟨rfl, HB.out⟩
  · have hM : isM (r, q) x = false := by simp [isM, h]
    have hd : (r == x) = false := by simpa using h
    rw [hM]
    clear hM h
    go_enter Tryd.func19, Tryd.ntmps19
    go_wp2_with fail
    go_ret
    exact ⟨rfl, HB.out⟩
theorem validRune_any (r : Int) (w : World) :
    Calls Tryd.prog 37 #[.int .i32 r] w fun e w' => e = .returned (.bool (validM r)) ∧ w = w' := by
  go_enter Tryd.func37, Tryd.ntmps37
  go_wp2_with fail
  all_goals
    go_ret
    refine ⟨ret_bool (bool_iff ?_), rfl⟩
    unfold validM
    first | (simp; done) | (simp; omega)
theorem letter_any (c : Ch) (w : World) :
    Calls Tryd.prog 36 #[.agg #[.int .i32 c.1, .bool c.2]] w fun e w' => e = .returned (.int .i32 (letM c)) ∧ Below w.heap.size w w' := by
  obtain ⟨r, q⟩ := c
  have hb : Below w.heap.size w (w.alloc (.cells #[.int .i32 r, .bool q] 35)) := (Below.refl _ w).alloc (Nat.le_refl _) _
  have HB := Lib.hid hb
  have HV := Lib.hid (fun W => validRune_any r W)
  have hL : letM (r, q) = if validM r then r else 65533 := rfl
  rw [hL]
  obtain ⟨V, hV⟩ : ∃ V, validM r = V := ⟨_, rfl⟩
  rw [hV] at HV ⊢
  clear hb hL hV
  cases V
  all_goals
    go_enter Tryd.func36, Tryd.ntmps36
    go_wp2_with (first
      | (go_at_call 37; (with_reducible refine (HV.out _).mono ?_); rintro e w1 ⟨rfl, rfl⟩))
    go_ret
    exact ⟨rfl, HB.out⟩
end Go.Proofs.YtpgmlbdfmcbgoaaDoor
