/-
  Proved: the library's search of a letter that is no ASCII in a short ASCII text finds none. Conditions: a letter that a text may have.
-/
import Derived.Test.YtloaalapkmbgeaaDoorLexIndex
namespace Go.Proofs.YtloaalapkmbgeaaDoor
open Go Go.RowKit GlyphMath LexMath

theorem extract_mem {s : ByteArray} {i j : Nat} {b : UInt8} (h : b ∈ (s.extract i j).data.toList) : b ∈ s.data.toList := by
  rw [ByteArray.data_extract, Array.toList_extract] at h
  exact List.mem_of_mem_drop (List.mem_of_mem_take (by simpa [List.extract] using h))
theorem below_drew (B : Nat) (w : World) (n : Nat) : Below B w (w.drewN n) := ⟨rfl, rfl, rfl, Nat.le_refl _, fun _ _ => rfl⟩

set_option maxHeartbeats 600000 in
set_option maxRecDepth 1000000 in
theorem index_high (s : ByteArray) (r : Nat) (w : World) (h0 : 128 ≤ r) (hg : GoodL r) (hr : r ≠ 65533) (hs : ∀ b ∈ s.data.toList, b.toNat < 128) (hz : s.size ≤ 100) :
    Calls Tryd.prog 92 #[.string s, .int .i32 (r : Int)] w fun e w' => e = .returned (.int .i64 (-1)) ∧ Below w.heap.size w w' := by
  have hV := Lib.hid (validRune_good hg)
  obtain ⟨E, hE, hf⟩ : ∃ E, Utf8.encode (r : Int) = E ∧ (2 ≤ E.size ∧ E.size ≤ 4 ∧ ∀ h : E.size - 1 < E.size, 128 ≤ (E[E.size - 1]'h).toNat) := ⟨_, rfl, encode_facts (r : Int) (valid_good hg) (by omega)⟩
  have HF := Lib.hid hf
  have HR := Lib.hid hs
  have hc1 : (128 : Int) ≤ (r : Int) := by omega
  have hc2 : ((r : Int) == 65533) = false := by
    have : ¬ (r : Int) = 65533 := by omega
    simpa using this
  have HE := Lib.hid hE
  have HZ := Lib.hid hz
  clear hf h0 hr hs hg hz hE
  go_enter Tryd.func92, Tryd.ntmps92
  go_wp2_with fail
  refine (Tryd.utf8_ValidRune _ _).mono ?_
  rintro e w1 ⟨rfl, rfl⟩
  rw [hV.out]
  go_wp2_with fail
  go_step3
  go_wp2_with fail
  obtain ⟨n, hn⟩ : ∃ n, E.size = n + 1 := ⟨E.size - 1, by have := HF.out.1; omega⟩
  have hw : wrap64 (((Utf8.encode (r : Int)).size : Int) - 1) = (n : Int) := by
    rw [HE.out, hn]
    have e : (((n + 1 : Nat) : Int) - 1) = (n : Int) := by omega
    rw [e]
    have := HF.out.2.1
    exact IntWalk.wrap64_in (n : Int) ⟨by omega, by omega⟩
  rw [hw, HE.out]
  have hne : (n : Int) < E.size := by omega
  have hn3 : (n : Int) ≤ 3 := by have := HF.out.2.1; omega
  have hn0 : (1 : Int) ≤ (n : Int) := by have := HF.out.1; omega
  have HN := Lib.hid hn
  clear hw hn
  by_cases hsz : (n : Int) < s.size
  · have hss : n < s.size := by omega
    have hee : n < E.size := by omega
    have hb1 : (s[n]'hss).toNat < 128 := HR.out _ (by
      rw [ByteArray.getElem_eq_getElem_data]
      exact Array.getElem_mem_toList ..)
    have hb2 : 128 ≤ (E[n]'hee).toNat := by
      have h := HF.out.2.2 (by have := HN.out; omega)
      have e : E.size - 1 = n := by have := HN.out; omega
      simp only [e] at h
      exact h
    have hdif : ((((s[n]'hss).toNat : Nat) : Int) != (((E[n]'hee).toNat : Nat) : Int)) = true := by simp; omega
    have HI := Lib.hid (fun (k : Nat) (W : World) => (show Calls Tryd.prog 99 #[.string (s.extract k s.size), .int .u8 (((E[n]'hee).toNat : Nat) : Int)] W fun e w' => e = .returned (.int .i64 (-1)) ∧ w' = W by
      refine (Tryd.strings_IndexByte _ _ _).mono ?_
      rintro e w' ⟨rfl, rfl⟩
      rw [indexByte_not]
      · exact ⟨rfl, rfl⟩
      · intro b hb e
        have h1 := HR.out b (extract_mem hb)
        have h2 : b.toNat = (E[n]'hee).toNat := by
          rw [e]
          have := UInt8.toNat_lt (E[n]'hee)
          simp
        omega))
    obtain ⟨m, hm⟩ : ∃ m : Nat, m = n + 1 := ⟨_, rfl⟩
    have hwr : IntKind.i64.wrap ((n : Int) + 1) = (m : Int) := by
      have e : (m : Int) = (n : Int) + 1 := by omega
      rw [e]; exact IntWalk.i64_in _ ⟨by omega, by omega⟩
    have hsl : (m : Int) ≤ (s.size : Int) := by omega
    have hs0 : (0 : Int) ≤ (m : Int) := by omega
    clear hm
    clear hb1 hb2
    go_loopw [9] (fun i w' => i = .int .i64 (n : Int) ∧ w' = w1) (fun _ _ => 0)
    case atStart => exact ⟨rfl, rfl⟩
    case round =>
      obtain ⟨rfl, rfl⟩ := hrel
      go_wp2_with fail
      go_step3
      go_wp2_with fail
      go_quiet (fail)
      go_wp2_with fail
      go_quiet ((go_at_call 99; refine (HI.out _ _).mono ?_; rintro e w2 ⟨rfl, rfl⟩; exact ⟨rfl, _, rfl⟩))
      go_wp2_with fail
      rw [Exit.noGoto_ret]
      go_wp2_with fail
      rw [Exit.noGoto_ret]
      go_wp2_with fail
      go_ret
      exact ⟨rfl, rfl, rfl, rfl, Nat.le_refl _, fun _ _ => rfl⟩
  · go_loopw [9] (fun i w' => i = .int .i64 (n : Int) ∧ w' = w1) (fun _ _ => 0)
    case atStart => exact ⟨rfl, rfl⟩
    case round =>
      obtain ⟨rfl, rfl⟩ := hrel
      go_wp2_with fail
      go_ret
      exact ⟨rfl, Below.refl _ _⟩
end Go.Proofs.YtloaalapkmbgeaaDoor
