/-
  Proved: contracts of Valid, Count and Name of a text, by its letters. Conditions: none.
-/
import Derived.Test.YtpgmlbdfmcbgoaaDoorGlyphLet
import Derived.WalkSpells
import Derived.WalkLawsBesides
import Derived.Below
import Derived.LoopTactic
import Derived.Laws.Strings3
namespace Go.Proofs.YtpgmlbdfmcbgoaaDoor
open Go Go.RowKit GlyphMath

theorem below_iter (w : World) (s : ByteArray) (p : Nat) : Below w.heap.size w (w.iter s p) := (Below.refl _ w).alloc (Nat.le_refl _) _



/-- Count is how many letters. -/
theorem count_any (s : ByteArray) (w : World) (hs : s.size ≤ 9223372036854775807) :
    Calls Tryd.prog 23 #[.string s] w fun e w' => e = .returned (.int .i64 ((letters s).length : Int)) ∧ Below w.heap.size w w' := by
  go_enter Tryd.func23, Tryd.ntmps23
  go_wp2
  go_loopw [3] (fun n w' => ∃ (pos k : Nat), w' = w.iter s pos ∧ n = .int .i64 (k : Int) ∧ k + (rest s pos).length = (letters s).length) (fun _ w' => s.size - w'.iterPos w.heap.size)
  case atStart => exact ⟨0, 0, rfl, rfl, by rw [rest_zero]; omega⟩
  case round =>
    obtain ⟨pos, k, rfl, rfl, hk⟩ := hrel
    have hl := letters_length s
    by_cases hp : pos < s.size
    · have hnx : ∀ ty, (Instr.next (.pointer (some ⟨w.heap.size, 0, none⟩)) true ty).run Tryd.prog (w.iter s pos) = _ := fun ty => run_next_any w s pos ty hp
      have hwd := width_pos s pos hp
      rw [rest_step s pos hp, List.length_cons] at hk
      have hk1 : (k : Int) + 1 ≤ 9223372036854775807 := by omega
      have HK := Lib.hid hk
      clear hk hl
      go_wp2
      go_roundw
      case rel => exact ⟨pos + (Utf8.decode s pos).2, k + 1, rfl, by congr 1, by have := HK.out; omega⟩
      case measure => simp; omega
    · have hnx : ∀ ty, (Instr.next (.pointer (some ⟨w.heap.size, 0, none⟩)) true ty).run Tryd.prog (w.iter s pos) = _ := fun ty => run_next_end w s pos ty hp
      rw [rest_end s pos hp, List.length_nil, Nat.add_zero] at hk
      subst hk
      clear hl
      go_wp2
      go_ret
      exact ⟨rfl, below_iter w s pos⟩


/-! ### Name -/
theorem low_rest (s : ByteArray) : ∀ n i, s.size - i ≤ n → i ≤ s.size → (rest s i).all (fun (x : Nat) => moreR x) = true → (rest s i).length = s.size - i
  | 0, i, hn, hi, _ => by rw [rest_end s i (by omega)]; simp; omega
  | n + 1, i, hn, hi, ha => by
    by_cases h : i < s.size
    · rw [rest_step s i h, List.all_cons, Bool.and_eq_true] at ha
      have h1 : (Utf8.decode s i).1 < 128 := by
        have := ha.1
        simp only [moreR, firstR, Bool.or_eq_true, decide_eq_true_eq] at this
        omega
      have h2 : (s[i]'h).toNat < 128 := by
        rcases Nat.lt_or_ge (s[i]'h).toNat 128 with k | k
        · exact k
        · have := (decode_high s i h k).1; omega
      have hd := decode_ascii s i h h2
      rw [hd] at ha
      rw [rest_step s i h, hd, List.length_cons, low_rest s n (i + 1) (by omega) (by omega) ha.2]; omega
    · rw [rest_end s i h]; simp; omega

/-- A text of so many bytes is a name just if its letters say so. -/
theorem name_few (s : ByteArray) (h0 : 0 < s.size) (h1 : s.size ≤ 12) : nameL (letters s) = (firstR (Utf8.decode s 0).1 && (letters s).all (fun (x : Nat) => moreR x)) := by
  have hl := letters_length s
  have e := rest_step s 0 h0
  rw [rest_zero] at e
  have e2 : nameL (letters s) = (firstR (Utf8.decode s 0).1 && (letters s).all (fun (x : Nat) => moreR x) && decide ((letters s).length ≤ 12)) := by rw [e]; rfl
  rw [e2, decide_eq_true (by omega), Bool.and_true]
theorem name_long (s : ByteArray) (h : 12 < s.size) : nameL (letters s) = false := by
  have e := rest_step s 0 (by omega)
  rw [rest_zero] at e
  have e2 : nameL (letters s) = (firstR (Utf8.decode s 0).1 && (letters s).all (fun (x : Nat) => moreR x) && decide ((letters s).length ≤ 12)) := by rw [e]; rfl
  cases ha : (letters s).all (fun (x : Nat) => moreR x) with
  | false => rw [e2, ha]; simp
  | true =>
    have := low_rest s s.size 0 (by omega) (by omega) (by rw [rest_zero]; exact ha)
    rw [rest_zero] at this
    rw [e2, decide_eq_false (by omega)]; simp
theorem nonempty (s : ByteArray) (h : 0 < s.size) : s.toList.isEmpty = false := by
  rw [Lib.toList_data]
  rw [Lib.size_eq] at h
  match hl : s.data.toList with
  | [] => rw [hl] at h; simp at h
  | _ :: _ => rfl



end Go.Proofs.YtpgmlbdfmcbgoaaDoor
