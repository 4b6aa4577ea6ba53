/-
  Proved: the walk of the law GlyphNames: it answers true and changes nothing that was there. Conditions: the numbers are an int and an int32.
-/
import Derived.Test.YtnemikhdpneblaaGlyphKnown
import Derived.Laws.Cover4
import Derived.Laws.Concat
namespace Go.Proofs.Ytnemikhdpneblaa
open Go Go.RowKit GlyphMath

/-- So many k. -/
def ks (n : Nat) : ByteArray := ⟨(List.replicate n (107 : UInt8)).toArray⟩
theorem ks_add (n : Nat) : ks n ++ ⟨#[107]⟩ = ks (n + 1) := by
  apply ByteArray.ext
  rw [ByteArray.data_append]
  apply Array.ext'
  simp [ks, List.replicate_succ']
theorem ks_size (n : Nat) : (ks n).size = n := by simp [ks, ByteArray.size]
theorem ks_letters (n : Nat) : letters (ks n) = List.replicate n 107 := by
  rw [letters_low]
  · simp [ks]
  · intro b hb
    obtain rfl : b = 107 := by simpa [ks] using (List.mem_replicate.1 (by simpa [ks] using hb)).2
    decide
theorem k_all (n : Nat) : (List.replicate n 107).all (fun (x : Nat) => moreR x) = true := by
  rw [List.all_eq_true]
  intro x hx
  obtain rfl := (List.mem_replicate.1 hx).2
  rfl
theorem ks_name (n : Nat) : nameL (letters (ks n)) = (decide (1 ≤ n) && decide (n ≤ 12)) := by
  rw [ks_letters]
  cases n with
  | zero => rfl
  | succ n =>
    have h := k_all (n + 1)
    rw [List.replicate_succ]
    rw [List.replicate_succ] at h
    simp only [nameL, h, List.length_cons, List.length_replicate]
    have : firstR ((107 : Nat) : Int) = true := rfl
    rw [this]; simp
theorem kr_name (r : Int) : nameL (letters (⟨#[107]⟩ ++ Utf8.encode r)) = moreR r := by
  rw [letters_append _ _ (by kernel_rfl), letters_encode, show letters ⟨#[107]⟩ = [107] from by kernel_rfl]
  have h1 : moreR ((107 : Nat) : Int) = true := rfl
  have h2 : firstR ((107 : Nat) : Int) = true := rfl
  simp only [List.cons_append, List.nil_append, nameL, List.all_cons, List.all_nil, h1, h2, more_asLetter, List.length_cons, List.length_nil]
  simp

theorem conv_rune (w : World) (r : Int) :
    (convert 25 9 (.slice (some ⟨w.heap.size, 0, none⟩) 1 1)).run Try.prog (w.alloc (.cells #[.int .i32 r] 21)) = .ok (.string (Utf8.encode r)) (w.alloc (.cells #[.int .i32 r] 21)) := by
  have h := run_convert_runes (P := Try.prog) (w.alloc (.cells #[.int .i32 r] 21)) 25 9 21 ⟨w.heap.size, 0, none⟩ 1 1 [r] (Nat.le_refl _) Try.underlying25 Try.underlying21 Try.underlying9 (by
    intro j hj
    obtain rfl : j = 0 := by simp at hj; omega
    exact World.cell?_alloc_mark w #[.int .i32 r] 21 (0, 0) 0)
  rw [h]
  congr 2

theorem names_out (z r : Int) (w : World) (h : z < 0 ∨ 40 < z) :
    Calls Try.prog 4 #[.int .i64 z, .int .i32 r] w fun e w' => e = .returned (.bool true) ∧ Below w.heap.size w w' := by
  rcases h with h | h
  all_goals
    go_enter Try.func4, Try.ntmps4
    go_wp2_with fail
    go_ret
    exact ⟨rfl, Below.refl _ _⟩

theorem below_two {w w1 w2 w4 : World} {o : Obj} (h1 : Below w.heap.size w w1) (h2 : Below (w1.alloc o).heap.size (w1.alloc o) w2) (h4 : Below w2.heap.size w2 w4) : Below w.heap.size w w4 := by
  have k1 := h1.alloc h1.size o
  have k2 := k1.trans (h2.mono k1.size)
  exact k2.trans (h4.mono k2.size)

/-- A name's answer, hidden. -/
theorem ncall (s : ByteArray) (q : Bool) (w : World) (h : nameL (letters s) = q) :
    Calls Try.prog 12 #[.string s] w fun e w' => e = .returned (.bool q) ∧ Below w.heap.size w w' := by
  rw [← h]; exact name_any s w

theorem names_in (n : Nat) (r : Int) (w : World) (hn : n ≤ 40) :
    Calls Try.prog 4 #[.int .i64 (n : Int), .int .i32 r] w fun e w' => e = .returned (.bool true) ∧ Below w.heap.size w w' := by
  have hz0 : ¬ (n : Int) < 0 := by omega
  have hz1 : ¬ 40 < (n : Int) := by omega
  obtain ⟨q, hq⟩ : ∃ q, (decide (1 ≤ n) && decide (n ≤ 12)) = q := ⟨_, rfl⟩
  have HQ := Lib.hid hq
  clear hq
  have HN := Lib.hid hn
  clear hn
  go_enter Try.func4, Try.ntmps4
  go_wp2_with fail
  go_loop [5, 6] (fun s i => ∃ k : Nat, k ≤ n ∧ i = .int .i64 (k : Int) ∧ s = .string (ks k)) (fun _ i => n - (intOf i).toNat)
  case atStart => exact ⟨0, Nat.zero_le _, rfl, rfl⟩
  case round =>
    obtain ⟨k, hk, rfl, rfl⟩ := hrel
    by_cases hlt : k < n
    · have h1 : (k : Int) < n := by omega
      have h2 : (k : Int) + 1 ≤ 9223372036854775807 := by have := HN.out; omega
      have HK := Lib.hid hlt
      have hs : (ks k).size + 1 ≤ 9223372036854775807 := by rw [ks_size]; have := HN.out; omega
      have hA := ks_add k
      generalize ks k = S at hs hA ⊢
      have HA := Lib.hid hA
      clear hlt hk hz0 hz1 hA
      go_wp2_with fail
      go_round
      case rel => exact ⟨k + 1, by have := HK.out; omega, by go_num, by rw [HA.out]⟩
      case measure => have := HK.out; simp [intOf]; omega
    · obtain rfl : k = n := by omega
      clear hlt hk
      have hes : 1 + (Utf8.encode r).size ≤ 9223372036854775807 := by have := (encode_size r).2; omega
      have hcv := fun W : World => conv_rune W r
      have K0 := Lib.hid (fun (W : World) (q : Bool) (h : nameL (letters (ks k)) = q) => ncall (ks k) q W h)
      obtain ⟨M, hM⟩ : ∃ M, moreR r = M := ⟨_, rfl⟩
      have HM := Lib.hid hM
      clear hM
      rcases (show k = 0 ∨ (1 ≤ k ∧ k < 12) ∨ k = 12 ∨ 12 < k by omega) with h | h | h | h
      · subst h
        clear hz0 hz1
        go_wp2_with (first
          | (go_at_call 12; refine (K0.out _ false (by kernel_rfl)).mono ?_; rintro e w1 ⟨rfl, hb1⟩; have H1 := Lib.hid hb1; clear hb1 K0)
          | (go_at_call 12; refine (ncall _ M _ ((kr_name r).trans HM.out)).mono ?_; rintro e w2 ⟨rfl, hb2⟩; have H2 := Lib.hid hb2; clear hb2)
          | (go_at_call 7; refine (more_any _ _).mono ?_; rintro e w3 ⟨rfl, rfl⟩; rw [HM.out])
          | (go_at_call 11; refine (known_any _).mono ?_; rintro e w4 ⟨rfl, hb4⟩; have H4 := Lib.hid hb4; clear hb4))
        go_ret
        exact ⟨rfl, below_two H1.out H2.out H4.out⟩
      · obtain ⟨h1, h2⟩ := h
        have HQ := Lib.hid (show nameL (letters (ks k)) = true by rw [ks_name]; simp; omega)
        have g1 : (1 : Int) ≤ k := by omega
        have g2 : (k : Int) ≤ 12 := by omega
        have g3 : ¬ (12 : Int) ≤ k := by omega
        clear hz0 hz1 h1 h2
        generalize ks k = S at K0 HQ ⊢
        go_wp2_with (first
          | (go_at_call 12; refine (K0.out _ true HQ.out).mono ?_; rintro e w1 ⟨rfl, hb1⟩; have H1 := Lib.hid hb1; clear hb1 K0)
          | (go_at_call 12; refine (ncall _ M _ ((kr_name r).trans HM.out)).mono ?_; rintro e w2 ⟨rfl, hb2⟩; have H2 := Lib.hid hb2; clear hb2)
          | (go_at_call 7; refine (more_any _ _).mono ?_; rintro e w3 ⟨rfl, rfl⟩; rw [HM.out])
          | (go_at_call 11; refine (known_any _).mono ?_; rintro e w4 ⟨rfl, hb4⟩; have H4 := Lib.hid hb4; clear hb4))
        go_ret
        exact ⟨rfl, below_two H1.out H2.out H4.out⟩
      · subst h
        clear hz0 hz1
        go_wp2_with (first
          | (go_at_call 12; refine (K0.out _ true (by kernel_rfl)).mono ?_; rintro e w1 ⟨rfl, hb1⟩; have H1 := Lib.hid hb1; clear hb1 K0)
          | (go_at_call 12; refine (ncall _ M _ ((kr_name r).trans HM.out)).mono ?_; rintro e w2 ⟨rfl, hb2⟩; have H2 := Lib.hid hb2; clear hb2)
          | (go_at_call 7; refine (more_any _ _).mono ?_; rintro e w3 ⟨rfl, rfl⟩; rw [HM.out])
          | (go_at_call 11; refine (known_any _).mono ?_; rintro e w4 ⟨rfl, hb4⟩; have H4 := Lib.hid hb4; clear hb4))
        go_ret
        exact ⟨rfl, H1.out.trans (H4.out.mono H1.out.size)⟩
      · have HQ := Lib.hid (show nameL (letters (ks k)) = false by rw [ks_name]; simp; omega)
        have g1 : (1 : Int) ≤ k := by omega
        have g2 : ¬ (k : Int) ≤ 12 := by omega
        have g3 : (12 : Int) ≤ k := by omega
        clear hz0 hz1 h
        generalize ks k = S at K0 HQ ⊢
        go_wp2_with (first
          | (go_at_call 12; refine (K0.out _ false HQ.out).mono ?_; rintro e w1 ⟨rfl, hb1⟩; have H1 := Lib.hid hb1; clear hb1 K0)
          | (go_at_call 12; refine (ncall _ M _ ((kr_name r).trans HM.out)).mono ?_; rintro e w2 ⟨rfl, hb2⟩; have H2 := Lib.hid hb2; clear hb2)
          | (go_at_call 7; refine (more_any _ _).mono ?_; rintro e w3 ⟨rfl, rfl⟩; rw [HM.out])
          | (go_at_call 11; refine (known_any _).mono ?_; rintro e w4 ⟨rfl, hb4⟩; have H4 := Lib.hid hb4; clear hb4))
        go_ret
        exact ⟨by simp; omega, H1.out.trans (H4.out.mono H1.out.size)⟩

theorem names_law (z r : Int) (w : World) :
    Calls Try.prog 4 #[.int .i64 z, .int .i32 r] w fun e w' => e = .returned (.bool true) ∧ Below w.heap.size w w' := by
  by_cases h : z < 0 ∨ 40 < z
  · exact names_out z r w h
  · obtain ⟨n, rfl⟩ : ∃ n : Nat, z = n := ⟨z.toNat, by omega⟩
    exact names_in n r w (by omega)
end Go.Proofs.Ytnemikhdpneblaa
