/-
  Proved: contracts of Valid, Count and Name of a text, by its letters. Conditions: none.
-/
import Derived.Test.YtlgbfhjbfolibaaDoorGlyphLet
import Derived.WalkSpells
import Derived.WalkLawsBesides
import Derived.Below
import Derived.LoopTactic
import Derived.Laws.Strings3
namespace Go.Proofs.YtlgbfhjbfolibaaDoor
open Go Go.RowKit GlyphMath

theorem below_iter (w : World) (s : ByteArray) (p : Nat) : Below w.heap.size w (w.iter s p) := (Below.refl _ w).alloc (Nat.le_refl _) _

theorem slprefix_any (s p : ByteArray) (w : World) :
    Calls Tryd.prog 34 #[.string s, .string p] w fun e w' => e = .returned (.bool (Lib.hasPrefix s.data.toList p.data.toList)) ∧ w = w' := by
  rw [← Lib.hasPrefix_raw]
  by_cases h : p.size ≤ s.size
  · go_enter Tryd.func34, Tryd.ntmps34
    go_wp2_with fail
    go_ret
    exact ⟨ret_bool (by simp [h]), rfl⟩
  · go_enter Tryd.func34, Tryd.ntmps34
    go_wp2_with fail
    go_ret
    exact ⟨ret_bool (by simp [h]), rfl⟩

theorem prefix_any (s p : ByteArray) (w : World) :
    Calls Tryd.prog 19 #[.string s, .string p] w fun e w' => e = .returned (.bool (Lib.hasPrefix s.data.toList p.data.toList)) ∧ w = w' := by
  generalize hB : Lib.hasPrefix s.data.toList p.data.toList = B
  have HB := Lib.hid hB
  clear hB
  go_enter Tryd.func19, Tryd.ntmps19
  go_wp2_with (go_at_call 34; refine (slprefix_any s p _).mono ?_; rintro e w1 ⟨rfl, rfl⟩; rw [HB.out])
  go_ret
  exact ⟨rfl, rfl⟩



/-! ### Name -/
theorem low_rest (s : ByteArray) : ∀ n i, s.size - i ≤ n → i ≤ s.size → (rest s i).all (fun (x : Nat) => moreR x) = true → (rest s i).length = s.size - i
  | 0, i, hn, hi, _ => by rw [rest_end s i (by omega)]; simp; omega
  | n + 1, i, hn, hi, ha => by
    by_cases h : i < s.size
    · rw [rest_step s i h, List.all_cons, Bool.and_eq_true] at ha
      have h1 : (Utf8.decode s i).1 < 128 := by
        have := ha.1
        simp only [moreR, firstR, Bool.or_eq_true, decide_eq_true_eq] at this
        omega
      have h2 : (s[i]'h).toNat < 128 := by
        rcases Nat.lt_or_ge (s[i]'h).toNat 128 with k | k
        · exact k
        · have := (decode_high s i h k).1; omega
      have hd := decode_ascii s i h h2
      rw [hd] at ha
      rw [rest_step s i h, hd, List.length_cons, low_rest s n (i + 1) (by omega) (by omega) ha.2]; omega
    · rw [rest_end s i h]; simp; omega

/-- A text of so many bytes is a name just if its letters say so. -/
theorem name_few (s : ByteArray) (h0 : 0 < s.size) (h1 : s.size ≤ 12) : nameL (letters s) = (firstR (Utf8.decode s 0).1 && (letters s).all (fun (x : Nat) => moreR x)) := by
  have hl := letters_length s
  have e := rest_step s 0 h0
  rw [rest_zero] at e
  have e2 : nameL (letters s) = (firstR (Utf8.decode s 0).1 && (letters s).all (fun (x : Nat) => moreR x) && decide ((letters s).length ≤ 12)) := by rw [e]; rfl
  rw [e2, decide_eq_true (by omega), Bool.and_true]
theorem name_long (s : ByteArray) (h : 12 < s.size) : nameL (letters s) = false := by
  have e := rest_step s 0 (by omega)
  rw [rest_zero] at e
  have e2 : nameL (letters s) = (firstR (Utf8.decode s 0).1 && (letters s).all (fun (x : Nat) => moreR x) && decide ((letters s).length ≤ 12)) := by rw [e]; rfl
  cases ha : (letters s).all (fun (x : Nat) => moreR x) with
  | false => rw [e2, ha]; simp
  | true =>
    have := low_rest s s.size 0 (by omega) (by omega) (by rw [rest_zero]; exact ha)
    rw [rest_zero] at this
    rw [e2, decide_eq_false (by omega)]; simp
theorem nonempty (s : ByteArray) (h : 0 < s.size) : s.toList.isEmpty = false := by
  rw [Lib.toList_data]
  rw [Lib.size_eq] at h
  match hl : s.data.toList with
  | [] => rw [hl] at h; simp at h
  | _ :: _ => rfl

theorem name_none (w : World) :
    Calls Tryd.prog 38 #[.string ⟨#[]⟩] w fun e w' => e = .returned (.bool false) ∧ Below w.heap.size w w' := by
  go_enter Tryd.func38, Tryd.ntmps38
  go_wp2_with fail
  go_ret
  exact ⟨rfl, Below.refl _ _⟩
theorem name_many (s : ByteArray) (w : World) (h : 12 < s.size) :
    Calls Tryd.prog 38 #[.string s] w fun e w' => e = .returned (.bool false) ∧ Below w.heap.size w w' := by
  have hE := nonempty s (by omega)
  have hL : (12 : Int) < s.size := by omega
  clear h
  go_enter Tryd.func38, Tryd.ntmps38
  go_wp2_with fail
  go_ret
  exact ⟨rfl, Below.refl _ _⟩

theorem name_in (s : ByteArray) (Q : Bool) (w : World) (h0 : 0 < s.size) (h1 : s.size ≤ 12) (hQ : Q = (firstR (Utf8.decode s 0).1 && (letters s).all (fun (x : Nat) => moreR x))) :
    Calls Tryd.prog 38 #[.string s] w fun e w' => e = .returned (.bool Q) ∧ Below w.heap.size w w' := by
  have hE := nonempty s h0
  have hL : (s.size : Int) ≤ 12 := by omega
  have HQ := Lib.hid hQ
  clear hQ h1
  go_enter Tryd.func38, Tryd.ntmps38
  go_wp2
  go_loopw [3] (fun _ w' => ∃ (pos : Nat), w' = w.iter s pos ∧ (pos = 0 ∨ 0 < pos ∧ Q = (rest s pos).all (fun (x : Nat) => moreR x))) (fun _ w' => s.size - w'.iterPos w.heap.size)
  case atStart => exact ⟨0, rfl, .inl rfl⟩
  case round =>
    obtain ⟨pos, rfl, hk⟩ := hrel
    by_cases hp : pos < s.size
    · obtain ⟨r, d, hd⟩ : ∃ r d, Utf8.decode s pos = (r, d) := ⟨_, _, rfl⟩
      have hnx : ∀ ty, (Instr.next (.pointer (some ⟨w.heap.size, 0, none⟩)) true ty).run Tryd.prog (w.iter s pos) = .ok (.tuple #[.bool true, .int .i64 pos, .int .i32 (r : Int)]) (w.iter s (pos + d)) := fun ty => by rw [run_next_any w s pos ty hp, hd]
      have hwd := width_pos s pos hp
      have hst := rest_step s pos hp
      rw [hd] at hst hwd
      simp only at hst hwd
      obtain ⟨F, hF⟩ : ∃ F, firstR (r : Int) = F := ⟨_, rfl⟩
      obtain ⟨M, hM⟩ : ∃ M, moreR (r : Int) = M := ⟨_, rfl⟩
      have HF := Lib.hid hF
      have HM := Lib.hid hM
      rcases hk with rfl | ⟨hpos, hk⟩
      · have hq := HQ.out
        rw [hd, ← rest_zero, hst, List.all_cons, hM, hF] at hq
        have HK := Lib.hid hq
        clear hF hM hst hq hd hE hL
        cases F <;> cases M
        all_goals
          go_wp2_with (first | (go_at_call 57; refine (first_any _ _).mono ?_; rintro e w1 ⟨rfl, rfl⟩; rw [HF.out]) | (go_at_call 58; refine (more_any _ _).mono ?_; rintro e w1 ⟨rfl, rfl⟩; rw [HM.out]))
        · go_ret
          exact ⟨ret_bool (by rw [HK.out]; rfl), below_iter w s _⟩
        · go_ret
          exact ⟨ret_bool (by rw [HK.out]; rfl), below_iter w s _⟩
        · go_ret
          exact ⟨ret_bool (by rw [HK.out]; rfl), below_iter w s _⟩
        · go_roundw
          case rel => exact ⟨_, rfl, .inr ⟨by omega, by rw [HK.out]; simp⟩⟩
          case measure => simp; omega
      · rw [hst, List.all_cons, hM] at hk
        have HK := Lib.hid hk
        have hi : ((pos : Int) == 0) = false := by
          have : ¬ (pos : Int) = 0 := by omega
          simpa using this
        clear hF hM hst hk hd hE hL hpos HQ HF
        cases M
        all_goals
          go_wp2_with (first | (go_at_call 58; refine (more_any _ _).mono ?_; rintro e w1 ⟨rfl, rfl⟩; rw [HM.out]))
        · go_ret
          exact ⟨ret_bool (by rw [HK.out]; rfl), below_iter w s _⟩
        · go_roundw
          case rel => exact ⟨pos + d, rfl, .inr ⟨by omega, by rw [HK.out]; simp⟩⟩
          case measure => simp; omega
    · have hnx : ∀ ty, (Instr.next (.pointer (some ⟨w.heap.size, 0, none⟩)) true ty).run Tryd.prog (w.iter s pos) = _ := fun ty => run_next_end w s pos ty hp
      rcases hk with k0 | ⟨hpos, hk⟩
      · exact absurd (by rw [k0]; exact h0) hp
      rw [rest_end s pos hp] at hk
      obtain rfl : Q = true := hk
      clear HQ hE hL
      go_wp2
      go_ret
      exact ⟨rfl, below_iter w s pos⟩

/-- Name, by its letters. -/
theorem name_any (s : ByteArray) (w : World) :
    Calls Tryd.prog 38 #[.string s] w fun e w' => e = .returned (.bool (nameL (letters s))) ∧ Below w.heap.size w w' := by
  by_cases h0 : 0 < s.size
  · by_cases h1 : s.size ≤ 12
    · exact name_in s _ w h0 h1 (name_few s h0 h1)
    · rw [name_long s (by omega)]; exact name_many s w (by omega)
  · obtain rfl : s = ⟨#[]⟩ := by
      apply ByteArray.ext
      apply Array.eq_empty_of_size_eq_zero
      have : s.size = s.data.size := rfl
      omega
    exact name_none w
end Go.Proofs.YtlgbfhjbfolibaaDoor
