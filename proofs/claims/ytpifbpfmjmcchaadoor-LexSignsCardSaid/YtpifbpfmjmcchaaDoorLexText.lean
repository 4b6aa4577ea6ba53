/-
  Proved: plain facts on a text and its letters' bytes. Conditions: as each says.
-/
import Derived.Test.YtpifbpfmjmcchaaDoorLexVar
namespace Go.Proofs.YtpifbpfmjmcchaaDoor
open Go Go.RowKit GlyphMath LexMath

theorem eb_len (r : Nat) : (eb r).length = if r < 128 then 1 else if r < 2048 then 2 else if r < 65536 then 3 else 4 := by
  unfold eb
  repeat' split
  all_goals first | rfl | omega

set_option maxHeartbeats 4000000 in
theorem decN_good (n b0 b1 b2 b3 r d : Nat) (hb : b0 < 256) (he : Lib.decodeN n b0 b1 b2 b3 = (r, d)) (h0 : ¬ (r = 65533 ∧ d = 1)) (h1 : r ≠ 0) : GoodL r ∧ d = (eb r).length := by
  rw [eb_len]
  unfold GoodL
  unfold Lib.decodeN at he
  split at he
  · obtain ⟨rfl, rfl⟩ := Prod.mk.inj he
    refine ⟨⟨by omega, by omega, by omega⟩, ?_⟩
    rw [if_pos (by assumption)]
  · split at he
    · split at he
      · obtain ⟨rfl, rfl⟩ := Prod.mk.inj he
        refine ⟨⟨by omega, by omega, by omega⟩, ?_⟩
        rw [if_neg (by omega), if_pos (by omega)]
      · obtain ⟨rfl, rfl⟩ := Prod.mk.inj he
        exact absurd ⟨rfl, rfl⟩ h0
    · split at he
      · split at he
        · obtain ⟨rfl, rfl⟩ := Prod.mk.inj he
          refine ⟨⟨by omega, by omega, by omega⟩, ?_⟩
          rw [if_neg (by omega), if_neg (by omega), if_pos (by omega)]
        · obtain ⟨rfl, rfl⟩ := Prod.mk.inj he
          exact absurd ⟨rfl, rfl⟩ h0
      · split at he
        · split at he
          · obtain ⟨rfl, rfl⟩ := Prod.mk.inj he
            refine ⟨⟨by omega, by omega, by omega⟩, ?_⟩
            rw [if_neg (by omega), if_neg (by omega), if_neg (by omega)]
          · obtain ⟨rfl, rfl⟩ := Prod.mk.inj he
            exact absurd ⟨rfl, rfl⟩ h0
        · obtain ⟨rfl, rfl⟩ := Prod.mk.inj he
          exact absurd ⟨rfl, rfl⟩ h0
theorem dec_good (s : ByteArray) (i : Nat) (hb : bad s i = false) : GoodL (Utf8.decode s i).1 ∧ (Utf8.decode s i).2 = (eb (Utf8.decode s i).1).length := by
  have h0 := not_bad hb
  have h1 : (Utf8.decode s i).1 ≠ 0 := fun e => by simp [bad, e] at hb
  exact decN_good (s.size - i) (s.get! i).toNat (s.get! (i + 1)).toNat (s.get! (i + 2)).toNat (s.get! (i + 3)).toNat _ _ (UInt8.toNat_lt _) (by rw [← Lib.decode_at]) h0 h1

/-- From a place on a text has letters of so many bytes. -/
theorem rest_text (s : ByteArray) : ∀ n i, s.size - i ≤ n → i ≤ s.size → badFrom s i = none → (enc (rest s i)).length = s.size - i ∧ ∀ c ∈ rest s i, GoodL c
  | 0, i, hn, hi, _ => by
    rw [rest_end s i (by omega)]
    exact ⟨by simp [enc]; omega, fun c hc => by cases hc⟩
  | n + 1, i, hn, hi, hb => by
    by_cases h : i < s.size
    · rw [badFrom_step s i h] at hb
      cases hbd : bad s i with
      | true => rw [hbd] at hb; simp at hb
      | false =>
        rw [hbd] at hb
        have hb' : badFrom s (i + (Utf8.decode s i).2) = none := by simpa using hb
        obtain ⟨g1, g2⟩ := dec_good s i hbd
        have w1 := width_pos s i h
        have w2 := width_le s i h
        obtain ⟨k1, k2⟩ := rest_text s n (i + (Utf8.decode s i).2) (by omega) (by omega) hb'
        rw [rest_step s i h]
        refine ⟨?_, fun c hc => ?_⟩
        · rw [enc, List.length_append, k1, ← g2]; omega
        · rcases List.mem_cons.1 hc with rfl | hc
          · exact g1
          · exact k2 c hc
    · rw [rest_end s i h]
      exact ⟨by simp [enc]; omega, fun c hc => by cases hc⟩
theorem text_none {s : ByteArray} (h : isText s = true) : firstBad s = none := by
  unfold isText at h
  simpa using h
theorem text_good {s : ByteArray} (h : isText s = true) : (enc (letters s)).length = s.size ∧ ∀ c ∈ letters s, GoodL c := by
  have := rest_text s s.size 0 (by omega) (by omega) (text_none h)
  rwa [rest_zero] at this

/-- Good letters' bytes are a text. -/
theorem enc_text : ∀ (l : List Nat), (∀ c ∈ l, GoodL c) → firstBad ⟨(enc l).toArray⟩ = none
  | [], _ => rfl
  | c :: r, h => by
    have hc := h c (by simp)
    have ih := enc_text r fun x hx => h x (List.mem_cons_of_mem _ hx)
    have e : (⟨(enc (c :: r)).toArray⟩ : ByteArray) = ⟨(eb c).toArray⟩ ++ ⟨(enc r).toArray⟩ := by rw [bytes_append]; rfl
    rw [e, firstBad_append _ _ (firstBad_eb hc), ih]
    rfl
theorem enc_isText {l : List Nat} (h : ∀ c ∈ l, GoodL c) : isText ⟨(enc l).toArray⟩ = true := by unfold isText; rw [enc_text l h]; rfl
end Go.Proofs.YtpifbpfmjmcchaaDoor
