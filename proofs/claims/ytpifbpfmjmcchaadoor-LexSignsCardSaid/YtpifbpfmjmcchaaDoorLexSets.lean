/-
  Proved: contracts of the program's sets of letters (acts, begins, ends, isOther, reckons), at every letter that a text may have, and at 0. Conditions: as each says.
-/
import Derived.Test.YtpifbpfmjmcchaaDoorLexHigh
namespace Go.Proofs.YtpifbpfmjmcchaaDoor
open Go Go.RowKit GlyphMath LexMath

/-- A letter, or the end. -/
def Lt0 (r : Nat) : Prop := r = 0 ∨ GoodL r
theorem Lt0.high {r : Nat} (h : Lt0 r) (h0 : 128 ≤ r) : GoodL r := h.resolve_left (by omega)

/-- A set of ASCII letters. -/
theorem set_any (s : ByteArray) (S : Nat → Bool) (hs : ∀ b ∈ s.data.toList, b.toNat < 128) (hz : s.size ≤ 100) (h1 : ∀ r, r < 128 → decide (0 ≤ Lib.indexByte s.data.toList r.toUInt8) = S r) (h2 : ∀ r, 128 ≤ r → S r = false)
    (r : Nat) (hr : Lt0 r) (w : World) :
    Calls Tryd.prog 54 #[.string s, .int .i32 (r : Int)] w fun e w' => e = .returned (.bool (S r)) ∧ Below w.heap.size w w' := by
  by_cases h : r < 128
  · refine (Tryd.strings_ContainsRune_ascii s (r : Int) w (by omega) (by omega)).mono ?_
    rintro e w' ⟨rfl, rfl⟩
    rw [show ((r : Int).toNat) = r from rfl, h1 r h]
    exact ⟨rfl, Below.refl _ _⟩
  · have hi : Calls Tryd.prog 67 #[.string s, .int .i32 (r : Int)] w fun e w' => e = .returned (.int .i64 (-1)) ∧ Below w.heap.size w w' := by
      by_cases he : r = 65533
      · subst he; exact index_none s w hs
      · exact index_high s r w (by omega) (hr.high (by omega)) he hs hz
    rw [h2 r (by omega)]
    have HI := Lib.hid hi
    clear hi h1 h2 hs hz hr h
    go_enter Tryd.func54, Tryd.ntmps54
    go_wp2_with (go_at_call 67; refine HI.out.mono ?_; rintro e w1 ⟨rfl, hb⟩; have HB := Lib.hid hb; clear hb)
    go_ret
    exact ⟨rfl, HB.out⟩

theorem acts_in (r : Nat) (hr : Lt0 r) (w : World) :
    Calls Tryd.prog 54 #[.string ⟨#[34, 36, 92]⟩, .int .i32 (r : Int)] w fun e w' => e = .returned (.bool (acts r)) ∧ Below w.heap.size w w' :=
  set_any _ acts (by decide) (by decide) (by decide +kernel) (fun r h => by unfold acts; simp; omega) r hr w
def endL (r : Nat) : Bool := r == 59 || r == 38 || r == 124 || r == 40 || r == 41 || r == 60 || r == 62
theorem ends_in (r : Nat) (hr : Lt0 r) (w : World) :
    Calls Tryd.prog 54 #[.string ⟨#[59, 38, 124, 40, 41, 60, 62]⟩, .int .i32 (r : Int)] w fun e w' => e = .returned (.bool (endL r)) ∧ Below w.heap.size w w' :=
  set_any _ endL (by decide) (by decide) (by decide +kernel) (fun r h => by unfold endL; simp; omega) r hr w
theorem other_in (r : Nat) (hr : Lt0 r) (w : World) :
    Calls Tryd.prog 54 #[.string ⟨#[49, 50, 51, 52, 53, 54, 55, 56, 57, 64, 35, 63]⟩, .int .i32 (r : Int)] w fun e w' => e = .returned (.bool (other r)) ∧ Below w.heap.size w w' :=
  set_any _ other (by decide) (by decide) (by decide +kernel) (fun r h => by unfold other; simp; omega) r hr w
def reckL (r : Nat) : Bool := r == 32 || r == 9 || r == 43 || r == 45 || r == 42 || r == 47 || r == 37 || r == 40 || r == 41 || r == 60 || r == 62 || r == 61 || r == 33
theorem reck_in (r : Nat) (hr : Lt0 r) (w : World) :
    Calls Tryd.prog 54 #[.string ⟨#[32, 9, 43, 45, 42, 47, 37, 40, 41, 60, 62, 61, 33]⟩, .int .i32 (r : Int)] w fun e w' => e = .returned (.bool (reckL r)) ∧ Below w.heap.size w w' :=
  set_any _ reckL (by decide) (by decide) (by decide +kernel) (fun r h => by unfold reckL; simp; omega) r hr w

theorem acts_any (r : Nat) (hr : Lt0 r) (w : World) :
    Calls Tryd.prog 75 #[.int .i32 (r : Int)] w fun e w' => e = .returned (.bool (acts r)) ∧ Below w.heap.size w w' := by
  have HI := Lib.hid (acts_in r hr w)
  clear hr
  go_enter Tryd.func75, Tryd.ntmps75
  go_wp2_with (go_at_call 54; refine HI.out.mono ?_; rintro e w1 ⟨rfl, hb⟩; have HB := Lib.hid hb; clear hb)
  go_ret
  exact ⟨rfl, HB.out⟩
theorem other_any (r : Nat) (hr : Lt0 r) (w : World) :
    Calls Tryd.prog 73 #[.int .i32 (r : Int)] w fun e w' => e = .returned (.bool (other r)) ∧ Below w.heap.size w w' := by
  have HI := Lib.hid (other_in r hr w)
  clear hr
  go_enter Tryd.func73, Tryd.ntmps73
  go_wp2_with (go_at_call 54; refine HI.out.mono ?_; rintro e w1 ⟨rfl, hb⟩; have HB := Lib.hid hb; clear hb)
  go_ret
  exact ⟨rfl, HB.out⟩
theorem begins_any (r : Nat) (hr : Lt0 r) (w : World) :
    Calls Tryd.prog 61 #[.int .i32 (r : Int)] w fun e w' => e = .returned (.bool (begins r)) ∧ Below w.heap.size w w' := by
  have HI := Lib.hid (acts_any r hr w)
  clear hr
  by_cases h : r = 39
  · subst h
    go_enter Tryd.func61, Tryd.ntmps61
    go_wp2_with fail
    go_ret
    exact ⟨rfl, Below.refl _ _⟩
  · have h1 : ((r : Int) == 39) = false := by
      have : ¬ (r : Int) = 39 := by omega
      simpa using this
    have HR := Lib.hid (show begins r = acts r by unfold begins; simp [h])
    clear h
    go_enter Tryd.func61, Tryd.ntmps61
    go_wp2_with (go_at_call 75; refine HI.out.mono ?_; rintro e w1 ⟨rfl, hb⟩; have HB := Lib.hid hb; clear hb)
    go_ret
    exact ⟨by rw [HR.out]; rfl, HB.out⟩
theorem reckons_any (r : Nat) (hr : Lt0 r) (w : World) :
    Calls Tryd.prog 84 #[.int .i32 (r : Int)] w fun e w' => e = .returned (.bool (reckons r)) ∧ Below w.heap.size w w' := by
  have HI := Lib.hid (reck_in r hr w)
  obtain ⟨M, hM⟩ : ∃ M, moreR (r : Int) = M := ⟨_, rfl⟩
  have HM := Lib.hid hM
  have HR := Lib.hid (show reckons r = (M || reckL r) by rw [← hM]; rfl)
  clear hr hM
  cases M
  all_goals
    go_enter Tryd.func84, Tryd.ntmps84
    go_wp2_with (first | (go_at_call 86; refine (more_any _ _).mono ?_; rintro e w1 ⟨rfl, rfl⟩; rw [HM.out]) | (go_at_call 54; refine HI.out.mono ?_; rintro e w1 ⟨rfl, hb⟩; have HB := Lib.hid hb; clear hb))
    go_ret
  · exact ⟨by rw [HR.out]; rfl, HB.out⟩
  · exact ⟨by rw [HR.out]; rfl, Below.refl _ _⟩
theorem ends_any (r : Nat) (n : Nat) (hr : Lt0 r) (w : World) :
    Calls Tryd.prog 43 #[.int .i32 (r : Int), .int .i64 (n : Int)] w fun e w' => e = .returned (.bool (ends r (decide (0 < n)))) ∧ Below w.heap.size w w' := by
  by_cases h : 0 < n
  · have h1 : (0 : Int) < (n : Int) := by omega
    have HR := Lib.hid (show ends r (decide (0 < n)) = (r == 125) by rw [decide_eq_true h]; rfl)
    by_cases h2 : r = 125
    · subst h2
      clear h hr
      go_enter Tryd.func43, Tryd.ntmps43
      go_wp2_with fail
      go_ret
      exact ⟨by rw [HR.out]; rfl, Below.refl _ _⟩
    · have h3 : ((r : Int) == 125) = false := by
        have : ¬ (r : Int) = 125 := by omega
        simpa using this
      have HR2 := Lib.hid (show (r == 125) = false by simpa using h2)
      clear h hr h2
      go_enter Tryd.func43, Tryd.ntmps43
      go_wp2_with fail
      go_ret
      exact ⟨by rw [HR.out, HR2.out]; rfl, Below.refl _ _⟩
  · obtain rfl : n = 0 := by omega
    have HI := Lib.hid (ends_in r hr w)
    obtain ⟨M, hM⟩ : ∃ M, blankR (r : Int) = M := ⟨_, rfl⟩
    have HM := Lib.hid hM
    have HR := Lib.hid (show ends r (decide (0 < 0)) = (M || endL r) by rw [← hM]; rfl)
    clear hr hM h
    cases M
    all_goals
      go_enter Tryd.func43, Tryd.ntmps43
      go_wp2_with (first | (go_at_call 53; refine (blank_any _ _).mono ?_; rintro e w1 ⟨rfl, rfl⟩; rw [HM.out]) | (go_at_call 54; refine HI.out.mono ?_; rintro e w1 ⟨rfl, hb⟩; have HB := Lib.hid hb; clear hb))
      go_ret
    · exact ⟨by rw [HR.out]; rfl, HB.out⟩
    · exact ⟨by rw [HR.out]; rfl, Below.refl _ _⟩
end Go.Proofs.YtpifbpfmjmcchaaDoor
