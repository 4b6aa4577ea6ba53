/-
  Proved: contracts of a reader's functions that put parts behind a row: escaped, single, escapedWithin. Conditions: the reader and the row lie in memory.
-/
import Derived.Test.YtpifbpfmjmcchaaDoorLexLit1
import Derived.Test.YtpifbpfmjmcchaaDoorLexLit2
import Derived.Test.YtpifbpfmjmcchaaDoorLexFit
import Derived.Test.YtpifbpfmjmcchaaDoorLexStops
namespace Go.Proofs.YtpifbpfmjmcchaaDoor
open Go Go.RowKit GlyphMath LexMath

theorem encode_good {c : Nat} (h : GoodL c) : (.string (Utf8.encode (c : Int)) : Value) = txt (enc [c]) := by
  have hv := valid_good h
  have e : Utf8.encode (c : Int) = ⟨(eb c).toArray⟩ := by
    have hc : (if Utf8.valid (c : Int) then (c : Int).toNat else Utf8.runeError) = c := by rw [hv]; rfl
    have e0 : Utf8.encode (c : Int) = (if c < 0x80 then ⟨#[UInt8.ofNat c]⟩ else if c < 0x800 then ⟨#[UInt8.ofNat (0xC0 + c / 64), UInt8.ofNat (0x80 + c % 64)]⟩ else if c < 0x10000 then ⟨#[UInt8.ofNat (0xE0 + c / 4096), UInt8.ofNat (0x80 + c / 64 % 64), UInt8.ofNat (0x80 + c % 64)]⟩ else ⟨#[UInt8.ofNat (0xF0 + c / 262144), UInt8.ofNat (0x80 + c / 4096 % 64), UInt8.ofNat (0x80 + c / 64 % 64), UInt8.ofNat (0x80 + c % 64)]⟩) := by
      conv => rhs; rw [← hc]
      rfl
    rw [e0]
    unfold eb
    by_cases k1 : c < 128
    · rw [if_pos k1, if_pos k1]
    · rw [if_neg k1, if_neg k1]
      by_cases k2 : c < 2048
      · rw [if_pos k2, if_pos k2]
      · rw [if_neg k2, if_neg k2]
        by_cases k3 : c < 65536
        · rw [if_pos k3, if_pos k3]
        · rw [if_neg k3, if_neg k3]
  rw [e]
  simp [txt, enc]

/-- A Lit more. -/
theorem lit_any {w : World} {B W : Nat} {xs : List Nat} {ps : List Pt} (h : RowAt w B W ps) (hf : Fits xs ps) (t : List UInt8) (ht : t.length ≤ 16000) (q : Bool) :
    Calls Tryd.prog 59 #[.pointer (some ⟨W, 0, none⟩), txt t, .bool q] w fun e w' => e = .returned (.tuple #[]) ∧ RowAt w' B W (lit ps t q) ∧ Kept (fun k => B ≤ k) w w' := by
  have hB := h.lt
  have hn := hf.1
  rcases List.eq_nil_or_concat ps with rfl | ⟨r, p, rfl⟩
  · exact lit_first h t q (by omega)
  · rw [List.concat_eq_append] at h hf hn ⊢
    simp only [List.length_append, List.length_singleton] at hn
    have hp := hf.2 p (by simp)
    rw [lit_last]
    by_cases hc : p.kind = 1 ∧ p.q = q
    · rw [if_pos hc]
      obtain ⟨h1, rfl⟩ := hc
      exact lit_join h t h1 (by omega) (by omega)
    · rw [if_neg hc]
      exact lit_more h t q hc (by omega) (by omega)

/-- What a function answers that puts parts behind a row. -/
def RowEnd (w w' : World) (e : Ending) (X G sz B W : Nat) (m : Res (List Pt)) : Prop :=
  match m with
  | .ok (ps, xs) => e = .returned (.int .i64 0) ∧ Rd w' X G sz xs ∧ RowAt w' B W ps ∧ Kept (fun k => k = X ∨ B ≤ k) w w'
  | .error c => (c = 2 ∨ c = 3) ∧ e = .returned (.int .i64 (c : Int)) ∧ Kept (fun k => k = X ∨ B ≤ k) w w'
/-- A reader, and a row. -/
structure RowIn (w : World) (X G sz B W : Nat) (xs : List Nat) (ps : List Pt) : Prop where
  rd : Rd w X G sz xs
  row : RowAt w B W ps
  hX : X < B
  hG : G < B
theorem RowIn.step {w w' : World} {X G sz B W : Nat} {xs ys : List Nat} {ps : List Pt} (h : RowIn w X G sz B W xs ps) (k : RStep w w' X G sz ys) : RowIn w' X G sz B W ys ps :=
  ⟨k.1, h.row.kept k.2 fun i hi _ e => by have := h.hX; omega, h.hX, h.hG⟩
theorem RowIn.below {w w' : World} {X G sz B W : Nat} {xs : List Nat} {ps : List Pt} (h : RowIn w X G sz B W xs ps) (k : Below w.heap.size w w') : RowIn w' X G sz B W xs ps :=
  ⟨h.rd.below k, h.row.kept (D := fun _ => False) (Kept.of_below k) fun _ _ _ h => h, h.hX, h.hG⟩
theorem RowIn.put {w w' : World} {X G sz B W : Nat} {xs : List Nat} {ps qs : List Pt} (h : RowIn w X G sz B W xs ps) (hr : RowAt w' B W qs) (k : Kept (fun k => B ≤ k) w w') : RowIn w' X G sz B W xs qs :=
  ⟨h.rd.kept k (by have := h.hX; omega) (by have := h.hG; omega), hr, h.hX, h.hG⟩
theorem Kept.wide {X B : Nat} {w w' : World} (h : Kept (fun k => k = X) w w') : Kept (fun k => k = X ∨ B ≤ k) w w' := h.mono fun _ _ h => .inl h
theorem Kept.wideB {X B : Nat} {w w' : World} (h : Kept (fun k => B ≤ k) w w') : Kept (fun k => k = X ∨ B ≤ k) w w' := h.mono fun _ _ h => .inr h
theorem Kept.wideW {X B : Nat} {w w' : World} (h : Below w.heap.size w w') : Kept (fun k => k = X ∨ B ≤ k) w w' := Kept.of_below h

theorem next_nil : next [] = 0 := rfl
theorem next_cons (c : Nat) (r : List Nat) : next (c :: r) = c := rfl

set_option maxHeartbeats 1000000 in
theorem escaped_any {w : World} {X G sz B W : Nat} {xs : List Nat} {ps : List Pt} (h : RowIn w X G sz B W xs ps) (hf : Fits xs ps) :
    Calls Tryd.prog 55 #[.pointer (some ⟨X, 0, none⟩), .pointer (some ⟨W, 0, none⟩)] w fun e w' => RowEnd w w' e X G sz B W (escapedM xs ps) := by
  have HT := Lib.hid (take_any h.rd)
  have HI := Lib.hid h
  have HF := Lib.hid hf
  cases ht : xs.tail with
  | nil =>
    have HM := Lib.hid (show escapedM xs ps = .error 2 by unfold escapedM; rw [ht])
    have HTL := Lib.hid ht
    clear h hf ht
    go_enter Tryd.func55, Tryd.ntmps55
    go_wp2_with (first
      | (go_at_call 40; refine HT.out.mono ?_; rintro e w1 ⟨rfl, hs1⟩; have HS1 := Lib.hid hs1; clear hs1; have HN := Lib.hid (next_any HS1.out.1))
      | (go_at_call 26; refine HN.out.mono ?_; rintro e w2 ⟨rfl, rfl⟩; rw [HTL.out, next_nil]))
    go_ret
    rw [HM.out]
    exact ⟨.inl rfl, rfl, HS1.out.2.wide⟩
  | cons c r =>
    have hg : GoodL c := h.rd.good c (List.mem_of_mem_tail (by rw [ht]; simp))
    have hx : ((c : Int) == 0) = false := by
      have := hg.1
      have : ¬ (c : Int) = 0 := by omega
      simpa using this
    have HM := Lib.hid (show escapedM xs ps = .ok (lit ps (enc [c]) true, r) by unfold escapedM; rw [ht])
    have HTL := Lib.hid ht
    have HG := Lib.hid (encode_good hg)
    have HL := Lib.hid (show (enc [c]).length ≤ 16000 by have := (enc_length [c]).2; simp only [List.length_singleton] at this; omega)
    clear h hf ht hg
    go_enter Tryd.func55, Tryd.ntmps55
    go_wp2_with fail
    refine HT.out.mono ?_
    rintro e w1 ⟨rfl, hs1⟩
    rw [HTL.out] at hs1
    have HS1 := Lib.hid hs1
    have HN := Lib.hid (next_any hs1.1)
    have HT2 := Lib.hid (take_any hs1.1)
    clear hs1
    go_wp2_with (first
      | (go_at_call 26; refine HN.out.mono ?_; rintro e w2 ⟨rfl, rfl⟩; rw [next_cons])
      | (go_at_call 40; refine HT2.out.mono ?_; rintro e w2 ⟨rfl, hs2⟩; rw [List.tail_cons] at hs2; rw [next_cons]; have HS2 := Lib.hid hs2; clear hs2; have HP := Lib.hid (lit_any (HI.out.step (HS1.out.trans HS2.out)).row HF.out (enc [c]) HL.out true))
      | (rw [HG.out]; go_at_call 59; refine HP.out.mono ?_; rintro e w3 ⟨rfl, hr3, hk3⟩; have HR3 := Lib.hid (And.intro hr3 hk3); clear hr3 hk3))
    go_ret
    rw [HM.out]
    have h2 := HI.out.step (HS1.out.trans HS2.out)
    exact ⟨rfl, (h2.put HR3.out.1 HR3.out.2).rd, HR3.out.1, (HS1.out.trans HS2.out).2.wide.on HR3.out.2.wideB⟩

def orForm {α : Type} (m : Option (List Nat)) (x : α) : Res α :=
  match m with
  | none => .error 2
  | some r => .ok (x, r)
theorem takes39 {w : World} {X G sz : Nat} {xs : List Nat} (h : Rd w X G sz xs) :
    Calls Tryd.prog 42 #[.pointer (some ⟨X, 0, none⟩), .string ⟨#[39]⟩] w fun e w' => e = .returned (.bool (takes [39] xs).isSome) ∧ RStep w w' X G sz ((takes [39] xs).getD xs) := takes_any ⟨#[39]⟩ [39] rfl (by decide) h
theorem enc_short {l xs : List Nat} (h : l.length ≤ xs.length) (hx : xs.length ≤ 2000) : (enc l).length ≤ 16000 := by have := (enc_length l).2; omega

set_option maxHeartbeats 1000000 in
theorem single_any {w : World} {X G sz B W : Nat} {xs : List Nat} {ps : List Pt} (h : RowIn w X G sz B W xs ps) (hf : Fits xs ps) :
    Calls Tryd.prog 56 #[.pointer (some ⟨X, 0, none⟩), .pointer (some ⟨W, 0, none⟩)] w fun e w' => RowEnd w w' e X G sz B W (singleM xs ps) := by
  have HT := Lib.hid (take_any h.rd)
  have HI := Lib.hid h
  have HF := Lib.hid hf
  obtain ⟨g, hg⟩ : ∃ g, got (fun r => r == 39) xs.tail = g := ⟨_, rfl⟩
  obtain ⟨l, hl⟩ : ∃ l, left (fun r => r == 39) xs.tail = l := ⟨_, rfl⟩
  have hlen : g.length ≤ xs.length := by
    have := got_length (fun r => r == 39) xs.tail
    rw [hg, hl] at this
    have := (Suf.tail xs).len
    omega
  have HL := Lib.hid (enc_short hlen h.rd.few)
  obtain ⟨m, hm⟩ : ∃ m, takes [39] l = m := ⟨_, rfl⟩
  have HM := Lib.hid (show singleM xs ps = orForm m (lit ps (enc g) true) by rw [← hm, ← hl, ← hg]; rfl)
  have HGL := Lib.hid (And.intro hg (And.intro hl hm))
  clear h hf hlen hg hl hm
  cases m
  all_goals
    go_enter Tryd.func56, Tryd.ntmps56
    go_wp2_with (first
      | (go_at_call 40; refine HT.out.mono ?_; rintro e w1 ⟨rfl, hs1⟩; have HS1 := Lib.hid hs1; clear hs1; have HTT := Lib.hid (till_any stops_quote HS1.out.1 (fun _ _ => trivial)))
      | (go_at_call 24; refine HTT.out.mono ?_; rintro e w2 ⟨rfl, hs2⟩; rw [HGL.out.2.1] at hs2; rw [HGL.out.1]; have HS2 := Lib.hid hs2; clear hs2; have HP := Lib.hid (lit_any (HI.out.step (HS1.out.trans HS2.out)).row HF.out (enc g) HL.out true))
      | (go_at_call 59; refine HP.out.mono ?_; rintro e w3 ⟨rfl, hr3, hk3⟩; have HR3 := Lib.hid (And.intro hr3 hk3); clear hr3 hk3; have HQ := Lib.hid (takes39 ((HI.out.step (HS1.out.trans HS2.out)).put HR3.out.1 HR3.out.2).rd))
      | (go_at_call 42; refine HQ.out.mono ?_; rw [HGL.out.2.2]; rintro e w4 ⟨rfl, hs4⟩; have HS4 := Lib.hid hs4; clear hs4))
    go_ret
    rw [HM.out]
  · exact ⟨.inl rfl, rfl, ((HS1.out.trans HS2.out).2.wide.on HR3.out.2.wideB).on HS4.out.2.wide⟩
  · have h4 := ((HI.out.step (HS1.out.trans HS2.out)).put HR3.out.1 HR3.out.2).step HS4.out
    exact ⟨rfl, h4.rd, h4.row, ((HS1.out.trans HS2.out).2.wide.on HR3.out.2.wideB).on HS4.out.2.wide⟩

theorem fits_lit92 {xs r : List Nat} {c : Nat} {ps : List Pt} (h : Fits xs ps) (ht : xs.tail = c :: r) : Fits (c :: r) (lit ps [92] true) := by
  have hx : xs ≠ [] := fun e => by rw [e] at ht; cases ht
  have h1 := (tail_less hx).2
  rw [ht] at h1
  exact h.lit _ _ (by omega) (by simp only [List.length_cons, List.length_nil] at h1 ⊢; omega)

set_option maxHeartbeats 1000000 in
theorem escapedWithin_any {w : World} {X G sz B W : Nat} {xs : List Nat} {ps : List Pt} (h : RowIn w X G sz B W xs ps) (hf : Fits xs ps) :
    Calls Tryd.prog 82 #[.pointer (some ⟨X, 0, none⟩), .pointer (some ⟨W, 0, none⟩)] w fun e w' => RowEnd w w' e X G sz B W (escapedWithinM xs ps) := by
  have HT := Lib.hid (take_any h.rd)
  have HI := Lib.hid h
  have HF := Lib.hid hf
  cases ht : xs.tail with
  | nil =>
    have HM := Lib.hid (show escapedWithinM xs ps = .error 2 by unfold escapedWithinM; rw [ht])
    have HTL := Lib.hid ht
    clear h hf ht
    go_enter Tryd.func82, Tryd.ntmps82
    go_wp2_with (first
      | (go_at_call 40; refine HT.out.mono ?_; rintro e w1 ⟨rfl, hs1⟩; have HS1 := Lib.hid hs1; clear hs1; have HN := Lib.hid (next_any HS1.out.1))
      | (go_at_call 26; refine HN.out.mono ?_; rintro e w2 ⟨rfl, rfl⟩; rw [HTL.out, next_nil]))
    go_ret
    rw [HM.out]
    exact ⟨.inl rfl, rfl, HS1.out.2.wide⟩
  | cons c r =>
    have hg : GoodL c := h.rd.good c (List.mem_of_mem_tail (by rw [ht]; simp))
    have hx : ((c : Int) == 0) = false := by
      have := hg.1
      have : ¬ (c : Int) = 0 := by omega
      simpa using this
    obtain ⟨b, hb⟩ : ∃ b, acts c = b := ⟨_, rfl⟩
    have HM := Lib.hid (show escapedWithinM xs ps = .ok (lit (if b then ps else lit ps [92] true) (enc [c]) true, r) by unfold escapedWithinM; rw [ht]; simp only [hb])
    have HTL := Lib.hid ht
    have HG := Lib.hid (encode_good hg)
    have HL := Lib.hid (show (enc [c]).length ≤ 16000 by have := (enc_length [c]).2; simp only [List.length_singleton] at this; omega)
    have HA := Lib.hid (fun W => by have := acts_any c (.inr hg) W; rw [hb] at this; exact this)
    have HF2 := Lib.hid (fits_lit92 hf ht)
    clear h hf ht hg hb
    cases b with
    | true =>
      go_enter Tryd.func82, Tryd.ntmps82
      go_wp2_with fail
      refine HT.out.mono ?_
      rintro e w1 ⟨rfl, hs1⟩
      rw [HTL.out] at hs1
      have HS1 := Lib.hid hs1
      have HN := Lib.hid (next_any hs1.1)
      clear hs1
      go_wp2_with (first
        | (go_at_call 26; refine HN.out.mono ?_; rintro e w2 ⟨rfl, rfl⟩; rw [next_cons])
        | (go_at_call 75; refine (HA.out _).mono ?_; rintro e w2 ⟨rfl, hb2⟩; have HB2 := Lib.hid hb2; clear hb2; have HT2 := Lib.hid (take_any (HS1.out.below HB2.out).1))
        | (go_at_call 40; refine HT2.out.mono ?_; rintro e w3 ⟨rfl, hs3⟩; rw [List.tail_cons] at hs3; rw [next_cons]; have HS3 := Lib.hid ((HS1.out.below HB2.out).trans hs3); clear hs3; have HP := Lib.hid (lit_any (HI.out.step HS3.out).row HF.out (enc [c]) HL.out true))
        | (rw [HG.out]; go_at_call 59; refine HP.out.mono ?_; rintro e w4 ⟨rfl, hr4, hk4⟩; have HR4 := Lib.hid (And.intro hr4 hk4); clear hr4 hk4))
      go_ret
      rw [HM.out]
      exact ⟨rfl, ((HI.out.step HS3.out).put HR4.out.1 HR4.out.2).rd, HR4.out.1, HS3.out.2.wide.on HR4.out.2.wideB⟩
    | false =>
      go_enter Tryd.func82, Tryd.ntmps82
      go_wp2_with fail
      refine HT.out.mono ?_
      rintro e w1 ⟨rfl, hs1⟩
      rw [HTL.out] at hs1
      have HS1 := Lib.hid hs1
      have HN := Lib.hid (next_any hs1.1)
      clear hs1
      go_wp2_with (first
        | (go_at_call 26; refine HN.out.mono ?_; rintro e w2 ⟨rfl, rfl⟩; rw [next_cons])
        | (go_at_call 75; refine (HA.out _).mono ?_; rintro e w2 ⟨rfl, hb2⟩; have HB2 := Lib.hid (HS1.out.below hb2); clear hb2; have HP0 := Lib.hid (lit_any (HI.out.step HB2.out).row HF.out [92] (by decide) true)))
      refine HP0.out.mono ?_
      rintro e w3 ⟨rfl, hr3, hk3⟩
      have HI3 := Lib.hid ((HI.out.step HB2.out).put hr3 hk3)
      have HK3 := Lib.hid (HB2.out.2.wide.on hk3.wideB)
      have HT2 := Lib.hid (take_any HI3.out.rd)
      clear hr3 hk3
      go_wp2_with (first
        | (go_at_call 40; refine HT2.out.mono ?_; rintro e w4 ⟨rfl, hs4⟩; rw [List.tail_cons] at hs4; rw [next_cons]; have HS4 := Lib.hid hs4; clear hs4; have HP := Lib.hid (lit_any (HI3.out.step HS4.out).row HF2.out (enc [c]) HL.out true))
        | (rw [HG.out]; go_at_call 59; refine HP.out.mono ?_; rintro e w5 ⟨rfl, hr5, hk5⟩; have HR5 := Lib.hid (And.intro hr5 hk5); clear hr5 hk5))
      go_ret
      rw [HM.out]
      exact ⟨rfl, ((HI3.out.step HS4.out).put HR5.out.1 HR5.out.2).rd, HR5.out.1, (HK3.out.on HS4.out.2.wide).on HR5.out.2.wideB⟩
end Go.Proofs.YtpifbpfmjmcchaaDoor
