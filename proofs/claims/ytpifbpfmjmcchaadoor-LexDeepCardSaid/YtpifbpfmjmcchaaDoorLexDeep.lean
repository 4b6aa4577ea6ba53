/-
  Proved: the walk of the law LexDeep: it answers true and changes nothing that was there. Conditions: the program's signs lie as they should.
-/
import Derived.Test.YtpifbpfmjmcchaaDoorLexKnownB
import Derived.Test.YtpifbpfmjmcchaaDoorLexDeepM
namespace Go.Proofs.YtpifbpfmjmcchaaDoor
open Go Go.RowKit GlyphMath LexMath

theorem deep_says (q : Bool) (n : Nat) (h : n ≤ 40) : (∃ ts, n ≤ 20 ∧ tokensL (deepT q n).size ((letters (deepT q n)).length + 1) (letters (deepT q n)) [] = .ok ts) ∨ (20 < n ∧ tokensL (deepT q n).size ((letters (deepT q n)).length + 1) (letters (deepT q n)) [] = .error (2, 3)) := by
  have hd := deep_all q n h
  unfold deepOk at hd
  rw [deep_size, deep_letters]
  cases hm : tokensL (3 + n * (if q then 8 else 6)) ((98 :: 32 :: deepN q n).length + 1) (98 :: 32 :: deepN q n) [] with
  | ok ts =>
    rw [hm] at hd
    exact .inl ⟨ts, by simpa [deepSays] using hd, rfl⟩
  | error a =>
    obtain ⟨a, c⟩ := a
    rw [hm] at hd
    simp only [deepSays, Bool.and_eq_true, decide_eq_true_eq] at hd
    obtain ⟨⟨h1, rfl⟩, rfl⟩ := hd
    exact .inr ⟨h1, rfl⟩
theorem deepB_le (q : Bool) (n : Nat) (h : n ≤ 40) : (deepB q n).size ≤ 400 := by
  rw [deepB_size]
  cases q <;> simp <;> omega

set_option maxHeartbeats 2000000 in
set_option maxRecDepth 100000 in
theorem deep_in (n : Nat) (q : Bool) (w : World) (h : n ≤ 40) (hS : Signs w) :
    Calls Tryd.prog 6 #[.int .i64 (n : Int), .bool q] w fun e w' => e = .returned (.bool true) ∧ Below w.heap.size w w' := by
  have HT := Lib.hid (tokens_in (deepT q n) w (by rw [deep_size]; cases q <;> simp <;> omega) (deep_text q n) hS)
  have HSAY := Lib.hid (deep_says q n h)
  have HN := Lib.hid h
  have HSG := Lib.hid hS
  have h0 : ¬ (n : Int) < 0 := by omega
  have h40 : ¬ (40 : Int) < (n : Int) := by omega
  have hn40 : (n : Int) ≤ 40 := by omega
  clear h hS
  go_enter Tryd.func6, Tryd.ntmps6
  go_wp2_with fail
  go_loopw [5, 6] (fun v i wr => ∃ (k : Nat), i = .int .i64 (k : Int) ∧ k ≤ n ∧ v = .string (deepB q k) ∧ w = wr) (fun _ i _ => n - (intOf i).toNat)
  case atStart => exact ⟨0, rfl, Nat.zero_le _, rfl, rfl⟩
  case round =>
    obtain ⟨k, rfl, hk, rfl, rfl⟩ := hrel
    have hsz := deepB_le q k (by have := HN.out; omega)
    by_cases hlt : k < n
    · obtain ⟨S, hSe⟩ : ∃ S, deepB q k = S := ⟨_, rfl⟩
      rw [hSe] at hsz ⊢
      have hS0 : (S.size : Int) ≤ 400 := by omega
      have HSE := Lib.hid hSe
      have HK := Lib.hid hlt
      have hk0 : (k : Int) < (n : Int) := by omega
      have hk1 : (k : Int) + 1 ≤ 9223372036854775807 := by omega
      clear hSe hsz hlt hk h0 h40
      cases q
      · have s1 : ¬ (9223372036854775807 : Int) < 5 + (S.size : Int) := by omega
        have s2 : ¬ (9223372036854775807 : Int) < 5 + (S.size : Int) + 1 := by omega
        go_wp2_with fail
        exact ⟨⟨k + 1, by simp, HK.out, by rw [deepB, HSE.out]; rfl, trivial⟩, by have := HK.out; simp [intOf]; omega⟩
      · have s1 : ¬ (9223372036854775807 : Int) < 6 + (S.size : Int) := by omega
        have s2 : ¬ (9223372036854775807 : Int) < 6 + (S.size : Int) + 2 := by omega
        go_wp2_with fail
        exact ⟨⟨k + 1, by simp, HK.out, by rw [deepB, HSE.out]; rfl, trivial⟩, by have := HK.out; simp [intOf]; omega⟩
    · obtain rfl : k = n := by omega
      have hT2 := HT.out
      rw [deepT] at hT2
      have HSAY2 := HSAY.out
      obtain ⟨S, hSe⟩ : ∃ S, deepB q k = S := ⟨_, rfl⟩
      rw [hSe] at hsz hT2 ⊢
      have hS0 : (S.size : Int) ≤ 400 := by omega
      have s1 : ¬ (9223372036854775807 : Int) < 2 + (S.size : Int) := by omega
      have hk0 : ¬ (k : Int) < (k : Int) := by omega
      have HT2 := Lib.hid hT2
      have HSE := Lib.hid hSe
      rw [deepT, hSe] at HSAY2
      have HS2 := Lib.hid HSAY2
      clear hT2 HSAY2 hSe hsz hlt hk h0 h40 HSAY
      rcases HS2.out with ⟨ts, h20, hm⟩ | ⟨h20, hm⟩
      · have HT3 := Lib.hid (show _ from by have := HT2.out; rw [hm] at this; exact this)
        have h20i : ¬ (20 : Int) < (k : Int) := by omega
        clear h20 hm
        go_wp2_with fail
        refine HT3.out.mono ?_
        rintro e w1 ⟨v, X, us, F, rfl, -, hb⟩
        have HB := Lib.hid hb
        have HK1 := Lib.hid (known_any w1 (HSG.out.kept (D := fun _ => False) (Kept.of_below hb) (fun h => h)))
        clear hb
        go_wp2_with fail
        refine HK1.out.mono ?_
        rintro e w2 ⟨rfl, hb2⟩
        have HB2 := Lib.hid hb2
        clear hb2
        go_wp2_with fail
        go_ret
        exact ⟨rfl, HB.out.trans (HB2.out.mono HB.out.size)⟩
      · have HT3 := Lib.hid (show _ from by have := HT2.out; rw [hm] at this; exact this)
        have h20i : (20 : Int) < (k : Int) := by omega
        clear h20 hm
        go_wp2_with fail
        refine HT3.out.mono ?_
        rintro e w1 ⟨-, rfl, hb⟩
        have HB := Lib.hid hb
        have HK1 := Lib.hid (known_any w1 (HSG.out.kept (D := fun _ => False) (Kept.of_below hb) (fun h => h)))
        clear hb
        go_wp2_with fail
        refine HK1.out.mono ?_
        rintro e w2 ⟨rfl, hb2⟩
        have HB2 := Lib.hid hb2
        clear hb2
        go_wp2_with fail
        go_ret
        exact ⟨rfl, HB.out.trans (HB2.out.mono HB.out.size)⟩
/-- Where it stops at once. -/
theorem deep_out (n : Int) (q : Bool) (w : World) (h : n < 0 ∨ 40 < n) :
    Calls Tryd.prog 6 #[.int .i64 n, .bool q] w fun e w' => e = .returned (.bool true) ∧ Below w.heap.size w w' := by
  by_cases h0 : n < 0
  · clear h
    go_enter Tryd.func6, Tryd.ntmps6
    go_wp2_with fail
    go_ret
    exact ⟨rfl, Below.refl _ _⟩
  · have h1 : 40 < n := h.resolve_left h0
    clear h
    go_enter Tryd.func6, Tryd.ntmps6
    go_wp2_with fail
    go_ret
    exact ⟨rfl, Below.refl _ _⟩
theorem deep_law (n : Int) (q : Bool) (w : World) (hS : Signs w) :
    Calls Tryd.prog 6 #[.int .i64 n, .bool q] w fun e w' => e = .returned (.bool true) ∧ Below w.heap.size w w' := by
  by_cases h : n < 0 ∨ 40 < n
  · exact deep_out n q w h
  · obtain ⟨k, rfl⟩ : ∃ k : Nat, n = (k : Int) := ⟨n.toNat, by omega⟩
    exact deep_in k q w (by omega) hS
end Go.Proofs.YtpifbpfmjmcchaaDoor
