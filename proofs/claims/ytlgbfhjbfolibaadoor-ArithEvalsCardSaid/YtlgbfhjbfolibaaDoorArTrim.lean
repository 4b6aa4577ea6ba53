/-
  Proved: contracts of arith's digit, digits, behind; strings.TrimLeftFunc at letters that are one byte each. Conditions: none.
-/
import Derived.Test.YtlgbfhjbfolibaaDoorArSign
import Derived.Test.YtlgbfhjbfolibaaDoorGlyphCode
import Derived.Test.YtlgbfhjbfolibaaDoorGlyphBlank
import Derived.Test.YtlgbfhjbfolibaaDoorShelf
import Derived.Lib.Hide
namespace Go.Proofs.YtlgbfhjbfolibaaDoor
open Go Go.Shelf Go.RowKit ArMath GlyphMath

theorem get_list (s : ByteArray) (i : Nat) (h : i < s.size) : s.data.toList.drop i = s[i] :: s.data.toList.drop (i + 1) := by
  have hl : i < s.data.toList.length := by rw [← Lib.size_eq]; exact h
  rw [List.drop_eq_getElem_cons hl]
  rfl
theorem idx_at (p : Nat → Bool) (q : UInt8 → Bool) (h1 : ∀ c : UInt8, c.toNat < 128 → q c = p c.toNat) (h2 : ∀ c : UInt8, 128 ≤ c.toNat → q c = false) (h3 : ∀ r, 128 ≤ r → p r = false) (s : ByteArray) : ∀ f i, s.size - i ≤ f → i ≤ s.size →
    Lib.idxFuncFrom p false s f i = if (s.data.toList.drop i).dropWhile q = [] then -1 else ((i + ((s.data.toList.drop i).takeWhile q).length : Nat) : Int)
  | 0, i, hf, hi => by
    have hd : s.data.toList.drop i = [] := List.drop_eq_nil_of_le (by rw [← Lib.size_eq]; omega)
    rw [hd]; rfl
  | f + 1, i, hf, hi => by
    by_cases h : i < s.size
    · rw [get_list s i h, Lib.idxFuncFrom, if_pos h]
      rcases Nat.lt_or_ge (s[i]'h).toNat 128 with k | k
      · rw [decode_ascii s i h k]
        cases hp : q s[i] with
        | true =>
          rw [← h1 _ k, hp, if_neg (by simp), idx_at p q h1 h2 h3 s f (i + 1) (by omega) (by omega), List.dropWhile_cons, if_pos hp, List.takeWhile_cons, if_pos hp, List.length_cons]
          simp only [Nat.add_assoc, Nat.add_comm 1]
        | false => rw [← h1 _ k, hp, if_pos rfl]; simp [hp]
      · have hq := h2 _ k
        rw [h3 _ (decode_high s i h k).1, if_pos rfl]; simp [hq]
    · have hd : s.data.toList.drop i = [] := List.drop_eq_nil_of_le (by rw [← Lib.size_eq]; omega)
      rw [hd, Lib.idxFuncFrom_end _ _ _ _ _ h]; rfl
theorem drop_take (q : UInt8 → Bool) : ∀ l : B, l.dropWhile q = l.drop (l.takeWhile q).length
  | [] => rfl
  | a :: r => by
    rw [List.dropWhile_cons, List.takeWhile_cons]
    split
    · rw [drop_take q r]; rfl
    · rfl
theorem extract_tx (s : ByteArray) (i : Nat) : s.extract i s.size = tx (s.data.toList.drop i) := by
  have : (s.extract i s.size).data.toList = s.data.toList.drop i := by rw [Lib.extract_data]; rw [List.take_of_length_le (by rw [Lib.size_eq, List.length_drop]; omega)]
  rw [← this, tx_of]
/-- What is left behind the letters of which q holds, one byte each. -/
theorem trim_tx (p : Nat → Bool) (q : UInt8 → Bool) (h1 : ∀ c : UInt8, c.toNat < 128 → q c = p c.toNat) (h2 : ∀ c : UInt8, 128 ≤ c.toNat → q c = false) (h3 : ∀ r, 128 ≤ r → p r = false) (l : B) : Lib.trimLeftF p (tx l) = tx (l.dropWhile q) := by
  unfold Lib.trimLeftF Lib.idxFunc
  rw [idx_at p q h1 h2 h3 (tx l) _ 0 (by omega) (by omega), tx_list, List.drop_zero]
  by_cases h : l.dropWhile q = []
  · rw [if_pos h, if_pos rfl, h]; rfl
  · rw [if_neg h, if_neg (by omega), Int.toNat_natCast, extract_tx, tx_list, Nat.zero_add, drop_take]

theorem digit_any (r : Int) (w : World) :
    Calls Tryd.prog 56 #[.int .i32 r] w fun e w' => e = .returned (.bool (moreR r && !firstR r)) ∧ w = w' := by
  obtain ⟨F, hF⟩ : ∃ F, firstR r = F := ⟨_, rfl⟩
  obtain ⟨M, hM⟩ : ∃ F, moreR r = F := ⟨_, rfl⟩
  have HF := Lib.hid (fun W => first_any r W)
  have HM := Lib.hid (fun W => more_any r W)
  rw [hF] at HF
  rw [hM] at HM
  rw [hF, hM]
  clear hF hM
  cases F <;> cases M
  all_goals
    go_enter Tryd.func56, Tryd.ntmps56
    go_wp2_with (first
      | (go_at_call 57; (with_reducible refine (HF.out _).mono ?_); rintro e w1 ⟨rfl, rfl⟩)
      | (go_at_call 58; (with_reducible refine (HM.out _).mono ?_); rintro e w1 ⟨rfl, rfl⟩))
    go_ret
    exact ⟨rfl, rfl⟩
theorem digR (r : Int) : (moreR r && !firstR r) = decide (48 ≤ r ∧ r ≤ 57) := by
  rw [Bool.eq_iff_iff]
  simp [moreR, firstR]
  omega
theorem digC_R (c : UInt8) : digC c = (moreR (c.toNat : Int) && !firstR (c.toNat : Int)) := by
  rw [digR, Bool.eq_iff_iff]; simp [digC]; omega
theorem firC_R (c : UInt8) : firC c = firstR (c.toNat : Int) := by
  rw [Bool.eq_iff_iff]; simp [firC, firstR]; omega
theorem morC_R (c : UInt8) : morC c = moreR (c.toNat : Int) := by
  rw [Bool.eq_iff_iff]; simp [morC, firC, digC, moreR, firstR]; omega
theorem blaC_R (c : UInt8) : blaC c = blankR (c.toNat : Int) := by
  rw [Bool.eq_iff_iff]; simp [blaC, blankR]; omega

theorem enter_digit : ∀ args w, (callFunc 56 args).run Tryd.prog w = .ok (.enter 56 args) w := enters_of Tryd.func56 (by kernel_rfl) rfl
theorem enter_more : ∀ args w, (callFunc 58 args).run Tryd.prog w = .ok (.enter 58 args) w := enters_of Tryd.func58 (by kernel_rfl) rfl
theorem enter_blank : ∀ args w, (callFunc 41 args).run Tryd.prog w = .ok (.enter 41 args) w := enters_of Tryd.func41 (by kernel_rfl) rfl
theorem trim_digit (l : B) (w : World) :
    Calls Tryd.prog 40 #[.string (tx l), .func (.func 56) #[] #[]] w fun e w' => e = .returned (.string (tx (l.dropWhile digC))) ∧ Below w.heap.size w w' := by
  refine (Tryd.strings_TrimLeftFunc 56 #[] enter_digit (fun r => moreR (r : Int) && !firstR (r : Int)) (tx l) w (fun W x _ => (digit_any x W).mono fun e w' ⟨he, hw⟩ => ⟨he, 0, hw ▸ rfl⟩)).mono ?_
  rw [trim_tx _ digC (fun c _ => digC_R c) (fun c h => by simp [digC]; omega) (fun r h => by rw [digR]; simp; omega)]
  exact fun e w' h => h
theorem trim_more (l : B) (w : World) :
    Calls Tryd.prog 40 #[.string (tx l), .func (.func 58) #[] #[]] w fun e w' => e = .returned (.string (tx (l.dropWhile morC))) ∧ Below w.heap.size w w' := by
  refine (Tryd.strings_TrimLeftFunc 58 #[] enter_more (fun r => moreR (r : Int)) (tx l) w (fun W x _ => (more_any x W).mono fun e w' ⟨he, hw⟩ => ⟨he, 0, hw ▸ rfl⟩)).mono ?_
  rw [trim_tx _ morC (fun c _ => morC_R c) (fun c h => by simp [morC, firC, digC]; omega) (fun r h => by simp [moreR, firstR]; omega)]
  exact fun e w' h => h
theorem trim_blank (l : B) (w : World) :
    Calls Tryd.prog 40 #[.string (tx l), .func (.func 41) #[] #[]] w fun e w' => e = .returned (.string (tx (skipB l))) ∧ Below w.heap.size w w' := by
  refine (Tryd.strings_TrimLeftFunc 41 #[] enter_blank (fun r => blankR (r : Int)) (tx l) w (fun W x _ => (blank_any x W).mono fun e w' ⟨he, hw⟩ => ⟨he, 0, hw ▸ rfl⟩)).mono ?_
  rw [trim_tx _ blaC (fun c _ => blaC_R c) (fun c h => by simp [blaC]; omega) (fun r h => by simp [blankR]; omega)]
  exact fun e w' h => h
end Go.Proofs.YtlgbfhjbfolibaaDoor
