/-
  Proved: contracts of arith's digits, behind. Conditions: texts under 2^62 bytes.
-/
import Derived.Test.YtlgbfhjbfolibaaDoorArTrim
import Derived.BigQuiet
import Derived.Deep.QuietTactic
namespace Go.Proofs.YtlgbfhjbfolibaaDoor
open Go Go.Shelf Go.RowKit ArMath GlyphMath

theorem head_tx (c : UInt8) (r : B) : ∃ h : 0 < (tx (c :: r)).size, ((tx (c :: r))[0]'h).toNat = c.toNat := ⟨by rw [tx_size]; simp, rfl⟩
theorem u8_rune (c : UInt8) : IntKind.i32.wrap (c.toNat : Int) = c.toNat := by
  have := c.toNat_lt
  unfold IntKind.wrap
  simp [IntKind.signed, IntKind.bits]
  omega
theorem digC_head (c : UInt8) (w : World) :
    Calls Tryd.prog 56 #[.int .i32 (c.toNat : Int)] w fun e w' => e = .returned (.bool (digC c)) ∧ w = w' := by
  rw [digC_R]; exact digit_any _ w
theorem firC_head (c : UInt8) (w : World) :
    Calls Tryd.prog 57 #[.int .i32 (c.toNat : Int)] w fun e w' => e = .returned (.bool (firC c)) ∧ w = w' := by
  rw [firC_R]; exact first_any _ w

theorem behind_nil (w : World) :
    Calls Tryd.prog 42 #[.string (tx [])] w fun e w' => e = .returned (.string (tx (behB []))) ∧ Below w.heap.size w w' := by
  show Calls _ _ #[.string ⟨#[]⟩] _ _
  go_enter Tryd.func42, Tryd.ntmps42
  go_wp2_with fail
  go_ret
  exact ⟨rfl, Below.refl _ _⟩
theorem behind_one (c : UInt8) (l : B) (R : ByteArray) (D F : Bool) (s : ByteArray) (hsl : s = tx l) (hs : 0 < s.size) (hc : (s[0]'hs).toNat = c.toNat) (hD : digC c = D) (hF : firC c = F) (hR : R = if D then tx (l.dropWhile digC) else tx (l.dropWhile morC)) (hDF : D = true ∨ F = true) (w : World) :
    Calls Tryd.prog 42 #[.string s] w fun e w' => e = .returned (.string R) ∧ Below w.heap.size w w' := by
  have hE : s.toList.isEmpty = false := nonempty s hs
  have hr := u8_rune c
  have HD := Lib.hid (fun W => digC_head c W)
  have HF := Lib.hid (fun W => firC_head c W)
  have HTD := Lib.hid (fun W => trim_digit l W)
  have HTM := Lib.hid (fun W => trim_more l W)
  rw [hD] at HD
  rw [hF] at HF
  rw [← hsl] at HTD HTM
  clear hsl
  have hsI : (0 : Int) < (s.size : Int) := by omega
  have HR := Lib.hid hR
  generalize (c.toNat : Nat) = cn at *
  clear hD hF hR
  cases D
  · cases F
    · simp at hDF
    · clear hDF
      go_enter Tryd.func42, Tryd.ntmps42
      go_wp2_with (first
        | (go_at_call 56; (with_reducible refine (HD.out _).mono ?_); rintro e w1 ⟨rfl, rfl⟩)
        | (go_at_call 57; (with_reducible refine (HF.out _).mono ?_); rintro e w1 ⟨rfl, rfl⟩)
        | (go_at_call 40; (with_reducible refine (HTM.out _).mono ?_); rintro e w1 ⟨rfl, hb1⟩; have HB1 := Lib.hid hb1; clear hb1))
      go_ret
      exact ⟨by rw [HR.out]; rfl, HB1.out⟩
  · clear hDF
    go_enter Tryd.func42, Tryd.ntmps42
    go_wp2_with (first
      | (go_at_call 56; (with_reducible refine (HD.out _).mono ?_); rintro e w1 ⟨rfl, rfl⟩)
      | (go_at_call 40; (with_reducible refine (HTD.out _).mono ?_); rintro e w1 ⟨rfl, hb1⟩; have HB1 := Lib.hid hb1; clear hb1))
    go_ret
    exact ⟨by rw [HR.out]; rfl, HB1.out⟩
theorem behind_two (c : UInt8) (L : Nat) (s R1 R2 t : ByteArray) (hs : 0 < s.size) (hc : (s[0]'hs).toNat = c.toNat) (hD : digC c = false) (hF : firC c = false) (hm : 1 < s.size → lev t.data.toList = L) (ht : s.extract 0 2 = t) (h1 : s.extract 1 s.size = R1) (h2 : s.extract 2 s.size = R2) (w : World) :
    Calls Tryd.prog 42 #[.string s] w fun e w' => e = .returned (.string (if 1 < s.size ∧ L ≠ 0 then R2 else R1)) ∧ Below w.heap.size w w' := by
  have hE : s.toList.isEmpty = false := nonempty s hs
  have hr := u8_rune c
  have HD := Lib.hid (fun W => digC_head c W)
  have HF := Lib.hid (fun W => firC_head c W)
  rw [hD] at HD
  rw [hF] at HF
  have HL := Lib.hid (fun W => level_any t W)
  have hsI : (0 : Int) < (s.size : Int) := by omega
  have HB := Lib.hid (Below.refl w.heap.size w)
  generalize (c.toNat : Nat) = cn at *
  clear hD hF
  by_cases h3 : 1 < s.size
  · rw [hm h3] at HL
    have h3I : (1 : Int) < (s.size : Int) := by omega
    have h4I : (2 : Int) ≤ (s.size : Int) := by omega
    by_cases h5 : L = 0
    · have HX := Lib.hid (show (if 1 < s.size ∧ L ≠ 0 then R2 else R1) = R1 by simp [h5])
      have h5b : ((L : Int) != 0) = false := by simpa using h5
      obtain ⟨XX, hXX⟩ : ∃ XX, (if 1 < s.size ∧ L ≠ 0 then R2 else R1) = XX := ⟨_, rfl⟩
      rw [hXX] at HX ⊢
      clear h5 hXX h3 hm
      go_enter Tryd.func42, Tryd.ntmps42
      go_wp2_with (first
        | (go_at_call 56; (with_reducible refine (HD.out _).mono ?_); rintro e w1 ⟨rfl, rfl⟩)
        | (go_at_call 57; (with_reducible refine (HF.out _).mono ?_); rintro e w1 ⟨rfl, rfl⟩)
        | (go_at_call 47; (with_reducible refine (HL.out _).mono ?_); rintro e w1 ⟨rfl, rfl⟩))
      go_ret
      exact ⟨by rw [HX.out]; rfl, HB.out⟩
    · have HX := Lib.hid (show (if 1 < s.size ∧ L ≠ 0 then R2 else R1) = R2 by simp [h5, h3])
      have h5b : ((L : Int) != 0) = true := by simpa using h5
      obtain ⟨XX, hXX⟩ : ∃ XX, (if 1 < s.size ∧ L ≠ 0 then R2 else R1) = XX := ⟨_, rfl⟩
      rw [hXX] at HX ⊢
      clear h5 hXX h3 hm
      go_enter Tryd.func42, Tryd.ntmps42
      go_wp2_with (first
        | (go_at_call 56; (with_reducible refine (HD.out _).mono ?_); rintro e w1 ⟨rfl, rfl⟩)
        | (go_at_call 57; (with_reducible refine (HF.out _).mono ?_); rintro e w1 ⟨rfl, rfl⟩)
        | (go_at_call 47; (with_reducible refine (HL.out _).mono ?_); rintro e w1 ⟨rfl, rfl⟩))
      go_ret
      exact ⟨by rw [HX.out]; rfl, HB.out⟩
  · have HX := Lib.hid (show (if 1 < s.size ∧ L ≠ 0 then R2 else R1) = R1 by simp [h3])
    have h3I : ¬ (1 : Int) < (s.size : Int) := by omega
    have h3b : decide ((1 : Int) < (s.size : Int)) = false := by simpa using h3I
    obtain ⟨XX, hXX⟩ : ∃ XX, (if 1 < s.size ∧ L ≠ 0 then R2 else R1) = XX := ⟨_, rfl⟩
    rw [hXX] at HX ⊢
    clear hXX h3 hm
    go_enter Tryd.func42, Tryd.ntmps42
    go_wp2_with (first
      | (go_at_call 56; (with_reducible refine (HD.out _).mono ?_); rintro e w1 ⟨rfl, rfl⟩)
      | (go_at_call 57; (with_reducible refine (HF.out _).mono ?_); rintro e w1 ⟨rfl, rfl⟩))
    go_ret
    exact ⟨by rw [HX.out]; rfl, HB.out⟩
theorem behind_any (l : B) (w : World) :
    Calls Tryd.prog 42 #[.string (tx l)] w fun e w' => e = .returned (.string (tx (behB l))) ∧ Below w.heap.size w w' := by
  cases l with
  | nil => exact behind_nil w
  | cons c r =>
    obtain ⟨hs, hc⟩ := head_tx c r
    by_cases hDF : digC c = true ∨ firC c = true
    · refine behind_one c (c :: r) _ (digC c) (firC c) _ rfl hs hc rfl rfl ?_ hDF w
      show tx (if digC c then (c :: r).dropWhile digC else if firC c then (c :: r).dropWhile morC else signB c r) = _
      cases hD : digC c with
      | true => rfl
      | false =>
        rw [hD] at hDF
        rw [show firC c = true by simpa using hDF]; rfl
    · have hD : digC c = false := by simpa using fun h => hDF (.inl h)
      have hF : firC c = false := by simpa using fun h => hDF (.inr h)
      have he : tx (behB (c :: r)) = if 1 < (tx (c :: r)).size ∧ lev ((c :: r).take 2) ≠ 0 then tx (r.drop 1) else tx r := by
        show tx (if digC c then (c :: r).dropWhile digC else if firC c then (c :: r).dropWhile morC else signB c r) = _
        rw [hD, hF, tx_size]
        cases r with
        | nil => simp [signB]
        | cons d q =>
          by_cases h : lev [c, d] = 0
          · simp [signB, h]
          · simp [signB, h]
      rw [he]
      refine behind_two c (lev ((c :: r).take 2)) (tx (c :: r)) (tx r) (tx (r.drop 1)) (tx ((c :: r).take 2)) hs hc hD hF (fun _ => by rw [tx_list]) ?_ ?_ ?_ w
      · have : ((tx (c :: r)).extract 0 2).data.toList = (c :: r).take 2 := by rw [Lib.extract_data, tx_list]; rfl
        rw [← this, tx_of]
      · rw [extract_tx, tx_list]; rfl
      · rw [extract_tx, tx_list]; rfl
theorem digits_any (l : B) (w : World) :
    Calls Tryd.prog 36 #[.string (tx l)] w fun e w' => e = .returned (.bool (digsB l)) ∧ w = w' := by
  cases l with
  | nil =>
    show Calls _ _ #[.string ⟨#[]⟩] _ _
    go_enter Tryd.func36, Tryd.ntmps36
    go_wp2_with fail
    go_ret
    exact ⟨rfl, rfl⟩
  | cons c r =>
    obtain ⟨hs, hc⟩ := head_tx c r
    have hE := nonempty _ hs
    have hr := u8_rune c
    have HD := Lib.hid (fun W => digC_head c W)
    show Calls _ _ _ _ fun e w' => e = .returned (.bool (digC c)) ∧ w = w'
    obtain ⟨D, hD⟩ : ∃ D, digC c = D := ⟨_, rfl⟩
    rw [hD] at HD ⊢
    clear hD
    generalize (c.toNat : Nat) = cn at *
    generalize tx (c :: r) = s at *
    have hsI : (0 : Int) < (s.size : Int) := by omega
    go_enter Tryd.func36, Tryd.ntmps36
    go_wp2_with (first
      | (go_at_call 56; (with_reducible refine (HD.out _).mono ?_); rintro e w1 ⟨rfl, rfl⟩))
    go_ret
    exact ⟨rfl, rfl⟩
end Go.Proofs.YtlgbfhjbfolibaaDoor
