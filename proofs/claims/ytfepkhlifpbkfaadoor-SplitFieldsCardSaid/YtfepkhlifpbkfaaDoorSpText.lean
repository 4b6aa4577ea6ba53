/-
  Proved: contract of the statements' own Text of a row of letters. Conditions: at most 100000 letters.
-/
import Derived.Test.YtfepkhlifpbkfaaDoorSpMem
import Derived.Laws.Cover4
import Derived.Deep.AppendLies
namespace Go.Proofs.YtfepkhlifpbkfaaDoor
open Go Go.RowKit GlyphMath GlMath SpMath

/-- A row's text. -/
def txF (l : List Ch) : ByteArray := l.foldl (fun r c => r ++ runesBytes [c.1]) ⟨#[]⟩
theorem txF_add (l : List Ch) (c : Ch) : txF (l ++ [c]) = txF l ++ runesBytes [c.1] := by simp [txF]
theorem txF_size : ∀ (n : Nat) (l : List Ch), l.length = n → (txF l).size ≤ 4 * n
  | 0, l, h => by rw [List.eq_nil_of_length_eq_zero h]; exact Nat.le_refl _
  | n + 1, l, h => by
    obtain ⟨m, c, rfl⟩ : ∃ m c, l = m ++ [c] := ⟨l.dropLast, l.getLast (by intro e; rw [e] at h; cases h), (List.dropLast_concat_getLast _).symm⟩
    have h1 : m.length = n := by simpa using h
    have h2 := txF_size n m h1
    have h3 := runesBytes_size_le [c.1]
    rw [txF_add, ByteArray.size_append]
    simp only [List.length_singleton] at h3
    omega
theorem sp_rune (w : World) (x : Int) : (convert 49 9 (.slice (some ⟨w.heap.size, 0, none⟩) 1 1)).run Tryd.prog (w.alloc (.cells #[.int .i32 x] 21)) = .ok (.string (runesBytes [x])) (w.alloc (.cells #[.int .i32 x] 21)) := by
  have k := run_convert_runes (P := Tryd.prog) (w.alloc (.cells #[.int .i32 x] 21)) 49 9 21 ⟨w.heap.size, 0, none⟩ 1 1 [x] (by simp) Tryd.underlying49 Tryd.underlying21 Tryd.underlying9 (fun j hj => by
    have hj' : j = 0 := by simp at hj; omega
    subst hj'
    exact World.news_of_block (heap_alloc_new w _) 0 _ rfl)
  rw [k]
  rfl
set_option maxHeartbeats 1000000 in
theorem rtext_any (l : List Ch) (v : Value) (w : World) (h : Rd 2 cC w v l) (hl : l.length ≤ 100000) :
    Calls Tryd.prog 13 #[v] w fun e w' => e = .returned (.string (txF l)) ∧ Below w.heap.size w w' := by
  obtain ⟨p, c, rfl⟩ := h.shape
  have HA := Lib.hid h
  obtain ⟨N, hN⟩ : ∃ N, l.length = N := ⟨_, rfl⟩
  have HN := Lib.hid hN
  rw [hN] at hl HA
  rw [hN]
  clear h hN
  go_enter Tryd.func13, Tryd.ntmps13
  go_wp2_with fail
  go_loopw [3, 4] (fun s i wr => ∃ k : Nat, i = .int .i64 (k : Int) ∧ s = .string (txF (l.take k)) ∧ k ≤ N ∧ Below w.heap.size w wr) (fun _ i _ => N - (intOf i).toNat)
  case atStart => exact ⟨0, rfl, rfl, Nat.zero_le _, Below.refl _ _⟩
  case round =>
    obtain ⟨k, rfl, rfl, hk, hb⟩ := hrel
    have HB := Lib.hid hb
    by_cases hlt : k < N
    · obtain ⟨x, hx⟩ : ∃ x, l[k]? = some x := ⟨_, List.getElem?_eq_getElem (by rw [HN.out]; exact hlt)⟩
      obtain ⟨b, o, hq, c0⟩ := (HA.out.below hb (Nat.le_refl _)).get hx
      subst hq
      have d0 := c0 k x hx 0 _ rfl
      rw [Nat.add_zero] at d0
      have hcv := sp_rune wr x.1
      have HX := Lib.hid (show txF (l.take k) ++ runesBytes [x.1] = txF (l.take (k + 1)) by rw [List.take_add_one, hx]; exact (txF_add _ _).symm)
      obtain ⟨S, hS⟩ : ∃ S, txF (l.take k) = S := ⟨_, rfl⟩
      obtain ⟨E, hE⟩ : ∃ E, runesBytes [x.1] = E := ⟨_, rfl⟩
      have hsz : S.size + E.size ≤ 400004 := by
        have h1 := txF_size _ _ (show (l.take k).length = k by rw [List.length_take, HN.out]; omega)
        have h2 := runesBytes_size_le [x.1]
        rw [hS] at h1
        rw [hE] at h2
        simp only [List.length_singleton] at h2
        omega
      have g1 : ¬ (9223372036854775807 : Int) < (S.size : Int) + (E.size : Int) := by omega
      have g2 : ¬ 9223372036854775807 < S.size + E.size := by omega
      have HLT := Lib.hid hlt
      have hltI : (k : Int) < (N : Int) := by omega
      have hk1 : (k : Int) + 1 ≤ 9223372036854775807 := by omega
      rw [hE] at hcv HX
      rw [hS] at HX ⊢
      have HBA := Lib.hid (HB.out.alloc HB.out.size (.cells #[.int .i32 x.1] 21))
      clear hb hlt hk hx c0 hS hE hsz
      go_wp2_with fail
      go_roundw
      case rel => exact ⟨k + 1, by simp, by rw [← HX.out], HLT.out, HBA.out⟩
      case measure => have := HLT.out; simp [intOf]; omega
    · have hltI : ¬ (k : Int) < (N : Int) := by omega
      have HE := Lib.hid (show txF (l.take k) = txF l by rw [List.take_of_length_le (by rw [HN.out]; omega)])
      clear hb hlt hk
      go_wp2_with fail
      go_ret
      rw [HE.out]
      exact ⟨rfl, HB.out⟩
end Go.Proofs.YtfepkhlifpbkfaaDoor
