/-
  Proved: the contract of glyph's Name by a text's bytes. Conditions: none.
-/
import Derived.Test.YtlgbfhjbfolibaaDoorArTrim
namespace Go.Proofs.YtlgbfhjbfolibaaDoor
open Go Go.RowKit ArMath GlyphMath

theorem more_rest (s : ByteArray) : ∀ n i, s.size - i ≤ n → i ≤ s.size → (rest s i).all (fun (x : Nat) => moreR x) = (s.data.toList.drop i).all morC
  | 0, i, hn, hi => by
    rw [rest_end s i (by omega), List.drop_eq_nil_of_le (by rw [← Lib.size_eq]; omega)]; rfl
  | n + 1, i, hn, hi => by
    by_cases h : i < s.size
    · rw [rest_step s i h, get_list s i h, List.all_cons, List.all_cons]
      rcases Nat.lt_or_ge (s[i]'h).toNat 128 with k | k
      · have hd := decode_ascii s i h k
        rw [hd, more_rest s n (i + 1) (by omega) (by omega), morC_R]
      · have hd := (decode_high s i h k).1
        have e1 : moreR ((Utf8.decode s i).1 : Int) = false := by simp [moreR, firstR]; omega
        have e2 : morC s[i] = false := by simp [morC, firC, digC]; omega
        rw [e1, e2]; rfl
    · rw [rest_end s i h, List.drop_eq_nil_of_le (by rw [← Lib.size_eq]; omega)]; rfl
theorem name_bytes (l : B) : nameL (letters (tx l)) = nameB l := by
  cases l with
  | nil => rfl
  | cons c r =>
    have h0 : 0 < (tx (c :: r)).size := by rw [tx_size]; simp
    have e := rest_step (tx (c :: r)) 0 h0
    have ha := more_rest (tx (c :: r)) _ 0 (Nat.le_refl _) (by omega)
    rw [tx_list, List.drop_zero, rest_zero] at ha
    rw [rest_zero] at e
    have e2 : nameL (letters (tx (c :: r))) = (firstR ((Utf8.decode (tx (c :: r)) 0).1 : Int) && (letters (tx (c :: r))).all (fun (x : Nat) => moreR x) && decide ((letters (tx (c :: r))).length ≤ 12)) := by rw [e]; rfl
    rw [e2, ha]
    show _ = (firC c && (c :: r).all morC && decide ((c :: r).length ≤ 12))
    have hc : ((tx (c :: r))[0]'h0) = c := rfl
    cases hm : (c :: r).all morC with
    | false => simp
    | true =>
      have hl : (letters (tx (c :: r))).length = (c :: r).length := by
        have := low_rest (tx (c :: r)) _ 0 (Nat.le_refl _) (by omega) (by rw [rest_zero, ha]; exact hm)
        rw [rest_zero, tx_size] at this
        exact this
      have hk : c.toNat < 128 := by
        have := (List.all_eq_true.1 hm) c (by simp)
        simp [morC, firC, digC] at this
        omega
      rw [hl, decode_ascii (tx (c :: r)) 0 h0 (by rw [hc]; exact hk), hc, firC_R]
theorem name_tx (l : B) (w : World) : Calls Tryd.prog 38 #[.string (tx l)] w fun e w' => e = .returned (.bool (nameB l)) ∧ Below w.heap.size w w' := by
  rw [← name_bytes]; exact name_any _ w
end Go.Proofs.YtlgbfhjbfolibaaDoor
