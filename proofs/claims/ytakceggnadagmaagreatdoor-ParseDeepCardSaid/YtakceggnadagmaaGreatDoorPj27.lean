/-
  Proved: texts joined: Proved: contracts of a reader's functions that put parts behind a row: escaped, single, escapedWithin. Conditions: the reader and the row lie in memory.
  Proved: a part in a variable; letters of a text that is made of letters; the contracts of parameter and op. Conditions: the reader lies in memory.
  Proved: the contracts of parameter and op. Conditions: the reader lies in memory.
-/
import Derived.Test.YtakceggnadagmaaGreatDoorPj26
import Derived.Test.YtakceggnadagmaaGreatDoorPj03
import Derived.Laws.ResultCell
namespace Go.Proofs.YtakceggnadagmaaGreatDoor
open Go Go.RowKit GlyphMath LexMath


/-- A Lit more. -/
theorem lit_any {w : World} {B W : Nat} {xs : List Nat} {ps : List Pt} (h : RowAt w B W ps) (hf : Fits xs ps) (t : List UInt8) (ht : t.length ≤ 16000) (q : Bool) :
    Calls Tryz.prog 126 #[.pointer (some ⟨W, 0, none⟩), txt t, .bool q] w fun e w' => e = .returned (.tuple #[]) ∧ RowAt w' B W (lit ps t q) ∧ Kept (fun k => B ≤ k) w w' := by
  have hB := h.lt
  have hn := hf.1
  rcases List.eq_nil_or_concat ps with rfl | ⟨r, p, rfl⟩
  · exact lit_first h t q (by omega)
  · rw [List.concat_eq_append] at h hf hn ⊢
    simp only [List.length_append, List.length_singleton] at hn
    have hp := hf.2 p (by simp)
    rw [lit_last]
    by_cases hc : p.kind = 1 ∧ p.q = q
    · rw [if_pos hc]
      obtain ⟨h1, rfl⟩ := hc
      exact lit_join h t h1 (by omega) (by omega)
    · rw [if_neg hc]
      exact lit_more h t q hc (by omega) (by omega)

/-- What a function answers that puts parts behind a row. -/
def RowEnd (w w' : World) (e : Ending) (X G sz B W : Nat) (m : Res (List Pt)) : Prop :=
  match m with
  | .ok (ps, xs) => e = .returned (.int .i64 0) ∧ Rd w' X G sz xs ∧ RowAt w' B W ps ∧ Kept (fun k => k = X ∨ B ≤ k) w w'
  | .error c => (c = 2 ∨ c = 3) ∧ e = .returned (.int .i64 (c : Int)) ∧ Kept (fun k => k = X ∨ B ≤ k) w w'
/-- A reader, and a row. -/
structure RowIn (w : World) (X G sz B W : Nat) (xs : List Nat) (ps : List Pt) : Prop where
  rd : Rd w X G sz xs
  row : RowAt w B W ps
  hX : X < B
  hG : G < B
theorem RowIn.step {w w' : World} {X G sz B W : Nat} {xs ys : List Nat} {ps : List Pt} (h : RowIn w X G sz B W xs ps) (k : RStep w w' X G sz ys) : RowIn w' X G sz B W ys ps :=
  ⟨k.1, h.row.kept k.2 fun i hi _ e => by have := h.hX; omega, h.hX, h.hG⟩
theorem RowIn.below {w w' : World} {X G sz B W : Nat} {xs : List Nat} {ps : List Pt} (h : RowIn w X G sz B W xs ps) (k : Below w.heap.size w w') : RowIn w' X G sz B W xs ps :=
  ⟨h.rd.below k, h.row.kept (D := fun _ => False) (Kept.of_below k) fun _ _ _ h => h, h.hX, h.hG⟩
theorem RowIn.put {w w' : World} {X G sz B W : Nat} {xs : List Nat} {ps qs : List Pt} (h : RowIn w X G sz B W xs ps) (hr : RowAt w' B W qs) (k : Kept (fun k => B ≤ k) w w') : RowIn w' X G sz B W xs qs :=
  ⟨h.rd.kept k (by have := h.hX; omega) (by have := h.hG; omega), hr, h.hX, h.hG⟩
theorem Kept.wide {X B : Nat} {w w' : World} (h : Kept (fun k => k = X) w w') : Kept (fun k => k = X ∨ B ≤ k) w w' := h.mono fun _ _ h => .inl h
theorem Kept.wideB {X B : Nat} {w w' : World} (h : Kept (fun k => B ≤ k) w w') : Kept (fun k => k = X ∨ B ≤ k) w w' := h.mono fun _ _ h => .inr h
theorem Kept.wideW {X B : Nat} {w w' : World} (h : Below w.heap.size w w') : Kept (fun k => k = X ∨ B ≤ k) w w' := Kept.of_below h

theorem next_nil : next [] = 0 := rfl
theorem next_cons (c : Nat) (r : List Nat) : next (c :: r) = c := rfl

set_option maxHeartbeats 1000000 in
theorem escaped_any {w : World} {X G sz B W : Nat} {xs : List Nat} {ps : List Pt} (h : RowIn w X G sz B W xs ps) (hf : Fits xs ps) :
    Calls Tryz.prog 122 #[.pointer (some ⟨X, 0, none⟩), .pointer (some ⟨W, 0, none⟩)] w fun e w' => RowEnd w w' e X G sz B W (escapedM xs ps) := by
  have HT := Lib.hid (take_any h.rd)
  have HI := Lib.hid h
  have HF := Lib.hid hf
  cases ht : xs.tail with
  | nil =>
    have HM := Lib.hid (show escapedM xs ps = .error 2 by unfold escapedM; rw [ht])
    have HTL := Lib.hid ht
    clear h hf ht
    go_enter Tryz.func122, Tryz.ntmps122
    go_wp2_with (first
      | (go_at_call 97; refine HT.out.mono ?_; rintro e w1 ⟨rfl, hs1⟩; have HS1 := Lib.hid hs1; clear hs1; have HN := Lib.hid (next_any HS1.out.1))
      | (go_at_call 72; refine HN.out.mono ?_; rintro e w2 ⟨rfl, rfl⟩; rw [HTL.out, next_nil]))
    go_ret
    rw [HM.out]
    exact ⟨.inl rfl, rfl, HS1.out.2.wide⟩
  | cons c r =>
    have hg : GoodL c := h.rd.good c (List.mem_of_mem_tail (by rw [ht]; simp))
    have hx : ((c : Int) == 0) = false := by
      have := hg.1
      have : ¬ (c : Int) = 0 := by omega
      simpa using this
    have HM := Lib.hid (show escapedM xs ps = .ok (lit ps (enc [c]) true, r) by unfold escapedM; rw [ht])
    have HTL := Lib.hid ht
    have HG := Lib.hid (encode_good hg)
    have HL := Lib.hid (show (enc [c]).length ≤ 16000 by have := (enc_length [c]).2; simp only [List.length_singleton] at this; omega)
    clear h hf ht hg
    go_enter Tryz.func122, Tryz.ntmps122
    go_wp2_with fail
    refine HT.out.mono ?_
    rintro e w1 ⟨rfl, hs1⟩
    rw [HTL.out] at hs1
    have HS1 := Lib.hid hs1
    have HN := Lib.hid (next_any hs1.1)
    have HT2 := Lib.hid (take_any hs1.1)
    clear hs1
    go_wp2_with (first
      | (go_at_call 72; refine HN.out.mono ?_; rintro e w2 ⟨rfl, rfl⟩; rw [next_cons])
      | (go_at_call 97; refine HT2.out.mono ?_; rintro e w2 ⟨rfl, hs2⟩; rw [List.tail_cons] at hs2; rw [next_cons]; have HS2 := Lib.hid hs2; clear hs2; have HP := Lib.hid (lit_any (HI.out.step (HS1.out.trans HS2.out)).row HF.out (enc [c]) HL.out true))
      | (rw [HG.out]; go_at_call 126; refine HP.out.mono ?_; rintro e w3 ⟨rfl, hr3, hk3⟩; have HR3 := Lib.hid (And.intro hr3 hk3); clear hr3 hk3))
    go_ret
    rw [HM.out]
    have h2 := HI.out.step (HS1.out.trans HS2.out)
    exact ⟨rfl, (h2.put HR3.out.1 HR3.out.2).rd, HR3.out.1, (HS1.out.trans HS2.out).2.wide.on HR3.out.2.wideB⟩

def orForm {α : Type} (m : Option (List Nat)) (x : α) : Res α :=
  match m with
  | none => .error 2
  | some r => .ok (x, r)
theorem takes39 {w : World} {X G sz : Nat} {xs : List Nat} (h : Rd w X G sz xs) :
    Calls Tryz.prog 99 #[.pointer (some ⟨X, 0, none⟩), .string ⟨#[39]⟩] w fun e w' => e = .returned (.bool (takes [39] xs).isSome) ∧ RStep w w' X G sz ((takes [39] xs).getD xs) := takes_any ⟨#[39]⟩ [39] rfl (by decide) h
theorem enc_short {l xs : List Nat} (h : l.length ≤ xs.length) (hx : xs.length ≤ 2000) : (enc l).length ≤ 16000 := by have := (enc_length l).2; omega

set_option maxHeartbeats 1000000 in
theorem single_any {w : World} {X G sz B W : Nat} {xs : List Nat} {ps : List Pt} (h : RowIn w X G sz B W xs ps) (hf : Fits xs ps) :
    Calls Tryz.prog 123 #[.pointer (some ⟨X, 0, none⟩), .pointer (some ⟨W, 0, none⟩)] w fun e w' => RowEnd w w' e X G sz B W (singleM xs ps) := by
  have HT := Lib.hid (take_any h.rd)
  have HI := Lib.hid h
  have HF := Lib.hid hf
  obtain ⟨g, hg⟩ : ∃ g, got (fun r => r == 39) xs.tail = g := ⟨_, rfl⟩
  obtain ⟨l, hl⟩ : ∃ l, left (fun r => r == 39) xs.tail = l := ⟨_, rfl⟩
  have hlen : g.length ≤ xs.length := by
    have := got_length (fun r => r == 39) xs.tail
    rw [hg, hl] at this
    have := (Suf.tail xs).len
    omega
  have HL := Lib.hid (enc_short hlen h.rd.few)
  obtain ⟨m, hm⟩ : ∃ m, takes [39] l = m := ⟨_, rfl⟩
  have HM := Lib.hid (show singleM xs ps = orForm m (lit ps (enc g) true) by rw [← hm, ← hl, ← hg]; rfl)
  have HGL := Lib.hid (And.intro hg (And.intro hl hm))
  clear h hf hlen hg hl hm
  cases m
  all_goals
    go_enter Tryz.func123, Tryz.ntmps123
    go_wp2_with (first
      | (go_at_call 97; refine HT.out.mono ?_; rintro e w1 ⟨rfl, hs1⟩; have HS1 := Lib.hid hs1; clear hs1; have HTT := Lib.hid (till_any stops_quote HS1.out.1 (fun _ _ => trivial)))
      | (go_at_call 70; refine HTT.out.mono ?_; rintro e w2 ⟨rfl, hs2⟩; rw [HGL.out.2.1] at hs2; rw [HGL.out.1]; have HS2 := Lib.hid hs2; clear hs2; have HP := Lib.hid (lit_any (HI.out.step (HS1.out.trans HS2.out)).row HF.out (enc g) HL.out true))
      | (go_at_call 126; refine HP.out.mono ?_; rintro e w3 ⟨rfl, hr3, hk3⟩; have HR3 := Lib.hid (And.intro hr3 hk3); clear hr3 hk3; have HQ := Lib.hid (takes39 ((HI.out.step (HS1.out.trans HS2.out)).put HR3.out.1 HR3.out.2).rd))
      | (go_at_call 99; refine HQ.out.mono ?_; rw [HGL.out.2.2]; rintro e w4 ⟨rfl, hs4⟩; have HS4 := Lib.hid hs4; clear hs4))
    go_ret
    rw [HM.out]
  · exact ⟨.inl rfl, rfl, ((HS1.out.trans HS2.out).2.wide.on HR3.out.2.wideB).on HS4.out.2.wide⟩
  · have h4 := ((HI.out.step (HS1.out.trans HS2.out)).put HR3.out.1 HR3.out.2).step HS4.out
    exact ⟨rfl, h4.rd, h4.row, ((HS1.out.trans HS2.out).2.wide.on HR3.out.2.wideB).on HS4.out.2.wide⟩

theorem fits_lit92 {xs r : List Nat} {c : Nat} {ps : List Pt} (h : Fits xs ps) (ht : xs.tail = c :: r) : Fits (c :: r) (lit ps [92] true) := by
  have hx : xs ≠ [] := fun e => by rw [e] at ht; cases ht
  have h1 := (tail_less hx).2
  rw [ht] at h1
  exact h.lit _ _ (by omega) (by simp only [List.length_cons, List.length_nil] at h1 ⊢; omega)

set_option maxHeartbeats 1000000 in
theorem escapedWithin_any {w : World} {X G sz B W : Nat} {xs : List Nat} {ps : List Pt} (h : RowIn w X G sz B W xs ps) (hf : Fits xs ps) :
    Calls Tryz.prog 173 #[.pointer (some ⟨X, 0, none⟩), .pointer (some ⟨W, 0, none⟩)] w fun e w' => RowEnd w w' e X G sz B W (escapedWithinM xs ps) := by
  have HT := Lib.hid (take_any h.rd)
  have HI := Lib.hid h
  have HF := Lib.hid hf
  cases ht : xs.tail with
  | nil =>
    have HM := Lib.hid (show escapedWithinM xs ps = .error 2 by unfold escapedWithinM; rw [ht])
    have HTL := Lib.hid ht
    clear h hf ht
    go_enter Tryz.func173, Tryz.ntmps173
    go_wp2_with (first
      | (go_at_call 97; refine HT.out.mono ?_; rintro e w1 ⟨rfl, hs1⟩; have HS1 := Lib.hid hs1; clear hs1; have HN := Lib.hid (next_any HS1.out.1))
      | (go_at_call 72; refine HN.out.mono ?_; rintro e w2 ⟨rfl, rfl⟩; rw [HTL.out, next_nil]))
    go_ret
    rw [HM.out]
    exact ⟨.inl rfl, rfl, HS1.out.2.wide⟩
  | cons c r =>
    have hg : GoodL c := h.rd.good c (List.mem_of_mem_tail (by rw [ht]; simp))
    have hx : ((c : Int) == 0) = false := by
      have := hg.1
      have : ¬ (c : Int) = 0 := by omega
      simpa using this
    obtain ⟨b, hb⟩ : ∃ b, acts c = b := ⟨_, rfl⟩
    have HM := Lib.hid (show escapedWithinM xs ps = .ok (lit (if b then ps else lit ps [92] true) (enc [c]) true, r) by unfold escapedWithinM; rw [ht]; simp only [hb])
    have HTL := Lib.hid ht
    have HG := Lib.hid (encode_good hg)
    have HL := Lib.hid (show (enc [c]).length ≤ 16000 by have := (enc_length [c]).2; simp only [List.length_singleton] at this; omega)
    have HA := Lib.hid (fun W => by have := acts_any c (.inr hg) W; rw [hb] at this; exact this)
    have HF2 := Lib.hid (fits_lit92 hf ht)
    clear h hf ht hg hb
    cases b with
    | true =>
      go_enter Tryz.func173, Tryz.ntmps173
      go_wp2_with fail
      refine HT.out.mono ?_
      rintro e w1 ⟨rfl, hs1⟩
      rw [HTL.out] at hs1
      have HS1 := Lib.hid hs1
      have HN := Lib.hid (next_any hs1.1)
      clear hs1
      go_wp2_with (first
        | (go_at_call 72; refine HN.out.mono ?_; rintro e w2 ⟨rfl, rfl⟩; rw [next_cons])
        | (go_at_call 152; refine (HA.out _).mono ?_; rintro e w2 ⟨rfl, hb2⟩; have HB2 := Lib.hid hb2; clear hb2; have HT2 := Lib.hid (take_any (HS1.out.below HB2.out).1))
        | (go_at_call 97; refine HT2.out.mono ?_; rintro e w3 ⟨rfl, hs3⟩; rw [List.tail_cons] at hs3; rw [next_cons]; have HS3 := Lib.hid ((HS1.out.below HB2.out).trans hs3); clear hs3; have HP := Lib.hid (lit_any (HI.out.step HS3.out).row HF.out (enc [c]) HL.out true))
        | (rw [HG.out]; go_at_call 126; refine HP.out.mono ?_; rintro e w4 ⟨rfl, hr4, hk4⟩; have HR4 := Lib.hid (And.intro hr4 hk4); clear hr4 hk4))
      go_ret
      rw [HM.out]
      exact ⟨rfl, ((HI.out.step HS3.out).put HR4.out.1 HR4.out.2).rd, HR4.out.1, HS3.out.2.wide.on HR4.out.2.wideB⟩
    | false =>
      go_enter Tryz.func173, Tryz.ntmps173
      go_wp2_with fail
      refine HT.out.mono ?_
      rintro e w1 ⟨rfl, hs1⟩
      rw [HTL.out] at hs1
      have HS1 := Lib.hid hs1
      have HN := Lib.hid (next_any hs1.1)
      clear hs1
      go_wp2_with (first
        | (go_at_call 72; refine HN.out.mono ?_; rintro e w2 ⟨rfl, rfl⟩; rw [next_cons])
        | (go_at_call 152; refine (HA.out _).mono ?_; rintro e w2 ⟨rfl, hb2⟩; have HB2 := Lib.hid (HS1.out.below hb2); clear hb2; have HP0 := Lib.hid (lit_any (HI.out.step HB2.out).row HF.out [92] (by decide) true)))
      refine HP0.out.mono ?_
      rintro e w3 ⟨rfl, hr3, hk3⟩
      have HI3 := Lib.hid ((HI.out.step HB2.out).put hr3 hk3)
      have HK3 := Lib.hid (HB2.out.2.wide.on hk3.wideB)
      have HT2 := Lib.hid (take_any HI3.out.rd)
      clear hr3 hk3
      go_wp2_with (first
        | (go_at_call 97; refine HT2.out.mono ?_; rintro e w4 ⟨rfl, hs4⟩; rw [List.tail_cons] at hs4; rw [next_cons]; have HS4 := Lib.hid hs4; clear hs4; have HP := Lib.hid (lit_any (HI3.out.step HS4.out).row HF2.out (enc [c]) HL.out true))
        | (rw [HG.out]; go_at_call 126; refine HP.out.mono ?_; rintro e w5 ⟨rfl, hr5, hk5⟩; have HR5 := Lib.hid (And.intro hr5 hk5); clear hr5 hk5))
      go_ret
      rw [HM.out]
      exact ⟨rfl, ((HI3.out.step HS4.out).put HR5.out.1 HR5.out.2).rd, HR5.out.1, (HK3.out.on HS4.out.2.wide).on HR5.out.2.wideB⟩
end Go.Proofs.YtakceggnadagmaaGreatDoor

namespace Go.Proofs.YtakceggnadagmaaGreatDoor
open Go Go.RowKit GlyphMath LexMath

/-! ### A variable of five cells -/






theorem ret_part {fn : Func} {p u : Tmp} (hf : fn.results = #[.cell p 113, .tmp u]) {tmps : Array Value} {k : Nat} {a b c d e x : Value} {w : World} {t : TypeId} {fr : Nat × Nat} (h : w.heap[k]? = some (.cells #[a, b, c, d, e] t fr)) (h2 : tmps.getD p undef = .pointer (some ⟨k, 0, none⟩)) (h3 : tmps.getD u undef = x) :
    (results fn tmps).run Tryz.prog w = .ok (.tuple #[.agg #[a, b, c, d, e], x]) w := by
  rw [results_cell_tmp hf, h2, h3]
  simp [asAddr, Result.andThen, load_part h]


/-- What a function answers that takes a part. -/
def PartEnd (w w' : World) (e : Ending) (X G sz : Nat) (m : Res Pt) : Prop :=
  match m with
  | .ok (p, xs) => ∃ u, e = .returned (.tuple #[partV p u, .int .i64 0]) ∧ WordN w' w.heap.size u p.word ∧ Rd w' X G sz xs ∧ Kept (fun k => k = X) w w'
  | .error c => (c = 2 ∨ c = 3) ∧ (∃ p : Pt, e = .returned (.tuple #[partV p zeroV, .int .i64 (c : Int)])) ∧ Kept (fun k => k = X) w w'

/-! ### letters of a text -/




theorem got_good {S : Nat → Bool} {xs : List Nat} (h : ∀ c ∈ xs, GoodL c) : ∀ c ∈ got S xs, GoodL c := fun c hc => h c (by rw [← got_left S xs]; exact List.mem_append_left _ hc)
theorem nameV {l : List Nat} (h : ∀ c ∈ l, GoodL c) (w : World) :
    Calls Tryz.prog 178 #[txt (enc l)] w fun e w' => e = .returned (.bool (nameL l)) ∧ Below w.heap.size w w' := by
  have := name_any ⟨(enc l).toArray⟩ w
  rwa [letters_enc l h] at this


set_option maxHeartbeats 1000000 in
set_option maxRecDepth 100000 in
theorem parameter_other {w : World} {X G sz : Nat} {xs : List Nat} (h : Rd w X G sz xs) (ho : other (next xs) = true) :
    Calls Tryz.prog 151 #[.pointer (some ⟨X, 0, none⟩)] w fun e w' => e = .returned (.tuple #[partV ⟨2, enc [next xs], [], [], false⟩ zeroV, .int .i64 0]) ∧ RStep w w' X G sz xs.tail := by
  have hg : GoodL (next xs) := (next_lt0 h.good).resolve_left fun e => by rw [e] at ho; cases ho
  have HR := Lib.hid (h.below ((Below.refl _ w).alloc (Nat.le_refl _) ZB))
  have HA := Lib.hid (fun W => by have := other_any (next xs) (.inr hg) W; rw [ho] at this; exact this)
  have HE := Lib.hid (encode_good hg)
  have HX := Lib.hid h.lt
  obtain ⟨c, hc⟩ : ∃ c, next xs = c := ⟨_, rfl⟩
  rw [hc] at HA HE ⊢
  have HC := Lib.hid hc
  clear h ho hg hc
  go_enter Tryz.func151, Tryz.ntmps151
  go_wp2_with (first
    | (go_at_call 72; refine (next_any HR.out).mono ?_; rintro e w1 ⟨rfl, rfl⟩; rw [HC.out])
    | (go_at_call 150; refine (HA.out _).mono ?_; rintro e w1 ⟨rfl, hb1⟩; have HB1 := Lib.hid hb1; clear hb1))
  refine (take_any (HR.out.below HB1.out)).mono ?_
  rintro e w2 ⟨rfl, hs2⟩
  rw [HC.out]
  have hblk : w2.heap[w.heap.size]? = some ZB := hs2.2.heap ((HB1.out.block _ (by simp)).trans (heap_alloc_new w _)) (fun e => by have := HX.out.1; omega)
  obtain ⟨d0, d1, d2, d3, d4⟩ := five_cells hblk
  have fz := five_free hblk
  have f0 := fz 0
  have f1 := fz 1
  have f2 := fz 2
  have f3 := fz 3
  have f4 := fz 4
  have HB := Lib.hid hblk
  have HS2 := Lib.hid hs2
  clear hblk fz hs2
  go_wp2_with fail
  (try simp only [Exit.inBlock, Exit.then])
  refine bodyPost_ret (ret_part rfl (five_put HB.out _ _ _ _ _) rfl rfl) rfl ⟨by rw [HE.out]; rfl, ?_, ?_⟩
  · exact HS2.out.1.kept (five_kept (D := fun k => w.heap.size ≤ k) (Kept.refl _ _) (.inl (Nat.le_refl _)) _ _ _ _ _) (by have := HX.out.1; omega) (by have := HX.out.2; omega)
  · exact (((Kept.of_below ((Below.refl _ w).alloc (Nat.le_refl _) ZB)).trans (Kept.of_below (D := fun _ => False) HB1.out) (fun _ h => h.elim)).on HS2.out.2).trans (five_kept (D := fun k => w.heap.size ≤ k) (Kept.refl _ _) (.inl (Nat.le_refl _)) _ _ _ _ _) (fun _ h => .inr h)
end Go.Proofs.YtakceggnadagmaaGreatDoor

namespace Go.Proofs.YtakceggnadagmaaGreatDoor
open Go Go.RowKit GlyphMath LexMath

/-- What parameter answers. -/
def ParEnd (w w' : World) (e : Ending) (X G sz : Nat) (m : Res (List Nat)) : Prop :=
  match m with
  | .ok (l, r) => e = .returned (.tuple #[partV ⟨2, enc l, [], [], false⟩ zeroV, .int .i64 0]) ∧ RStep w w' X G sz r ∧ (∀ c ∈ l, GoodL c)
  | .error c => c = 2 ∧ e = .returned (.tuple #[partV ⟨0, [], [], [], false⟩ zeroV, .int .i64 2]) ∧ Kept (fun k => k = X) w w'

theorem var_kept {w w1 w2 : World} {X : Nat} (hb : Below (w.alloc ZB).heap.size (w.alloc ZB) w1) (k : Kept (fun k => k = X) w1 w2) (a b c d e : Value) :
    Kept (fun k => k = X) w (((((w2.setCell ⟨w.heap.size, 0, none⟩ a).setCell ⟨w.heap.size, 1, none⟩ b).setCell ⟨w.heap.size, 2, none⟩ c).setCell ⟨w.heap.size, 3, none⟩ d).setCell ⟨w.heap.size, 4, none⟩ e) :=
  (((Kept.of_below ((Below.refl _ w).alloc (Nat.le_refl _) ZB)).trans (Kept.of_below (D := fun _ => False) hb) (fun _ h => h.elim)).on k).trans (five_kept (D := fun k => w.heap.size ≤ k) (Kept.refl _ _) (.inl (Nat.le_refl _)) _ _ _ _ _) (fun _ h => .inr h)
theorem Rd.five {w : World} {X G sz : Nat} {xs : List Nat} (h : Rd w X G sz xs) {k : Nat} (hX : X ≠ k) (hG : G ≠ k) (a b c d e : Value) :
    Rd (((((w.setCell ⟨k, 0, none⟩ a).setCell ⟨k, 1, none⟩ b).setCell ⟨k, 2, none⟩ c).setCell ⟨k, 3, none⟩ d).setCell ⟨k, 4, none⟩ e) X G sz xs :=
  h.kept (five_kept (D := fun j => j = k) (Kept.refl _ _) (.inl rfl) a b c d e) hX hG

set_option maxHeartbeats 1000000 in
set_option maxRecDepth 100000 in
theorem parameter_name {w : World} {X G sz : Nat} {xs : List Nat} (h : Rd w X G sz xs) (ho : other (next xs) = false) :
    Calls Tryz.prog 151 #[.pointer (some ⟨X, 0, none⟩)] w fun e w' => ParEnd w w' e X G sz (parameterM xs) := by
  have HR := Lib.hid (h.below ((Below.refl _ w).alloc (Nat.le_refl _) ZB))
  have hlt := next_lt0 h.good
  have HA := Lib.hid (fun W => by have := other_any (next xs) hlt W; rw [ho] at this; exact this)
  have HX := Lib.hid h.lt
  obtain ⟨l, hl⟩ : ∃ l, got (fun r => !moreR r) xs = l := ⟨_, rfl⟩
  obtain ⟨r, hr⟩ : ∃ r, left (fun r => !moreR r) xs = r := ⟨_, rfl⟩
  have hgl : ∀ c ∈ l, GoodL c := by rw [← hl]; exact got_good h.good
  obtain ⟨b, hb⟩ : ∃ b, nameL l = b := ⟨_, rfl⟩
  obtain ⟨T, hT⟩ : ∃ T : ByteArray, txt (enc l) = .string T := ⟨_, rfl⟩
  have HNM := Lib.hid (fun W => by have := nameV hgl W; rw [hb, hT] at this; exact this)
  have HTX := Lib.hid hT
  have HO := Lib.hid (And.intro ho hb)
  have HLR := Lib.hid (And.intro hl hr)
  have HGL := Lib.hid hgl
  obtain ⟨c, hc⟩ : ∃ c, next xs = c := ⟨_, rfl⟩
  rw [hc] at HA
  have HC := Lib.hid hc
  clear h ho hlt hl hr hgl hb hc hT
  cases b
  all_goals
    go_enter Tryz.func151, Tryz.ntmps151
    go_wp2_with (first
      | (go_at_call 72; refine (next_any HR.out).mono ?_; rintro e w1 ⟨rfl, rfl⟩; rw [HC.out])
      | (go_at_call 150; refine (HA.out _).mono ?_; rintro e w1 ⟨rfl, hb1⟩; have HB1 := Lib.hid hb1; clear hb1)
      | (go_at_call 70; refine (till_any stops_name (HR.out.below HB1.out) (fun _ _ => trivial)).mono ?_; rintro e w2 ⟨rfl, hs2⟩; rw [HLR.out.1, HTX.out]; rw [HLR.out.2] at hs2; have HS2 := Lib.hid hs2; clear hs2))
    refine (HNM.out _).mono ?_
    rintro e w3 ⟨rfl, hb3⟩
    have hs3 := HS2.out.below hb3
    have hblk : w3.heap[w.heap.size]? = some ZB := hs3.2.heap ((HB1.out.block _ (by simp)).trans (heap_alloc_new w _)) (fun e => by have := HX.out.1; omega)
    obtain ⟨d0, d1, d2, d3, d4⟩ := five_cells hblk
    have fz := five_free hblk
    have f0 := fz 0
    have f1 := fz 1
    have f2 := fz 2
    have f3 := fz 3
    have f4 := fz 4
    have HB := Lib.hid hblk
    have HS3 := Lib.hid hs3
    clear hblk fz hs3 hb3
    go_wp2_with fail
    (try simp only [Exit.inBlock, Exit.then])
    refine bodyPost_ret (ret_part rfl (five_put HB.out _ _ _ _ _) rfl rfl) rfl ?_
  · rw [show parameterM xs = .error 2 by unfold parameterM; rw [HO.out.1, HLR.out.1, HO.out.2]; rfl]
    exact ⟨rfl, rfl, var_kept HB1.out HS3.out.2 _ _ _ _ _⟩
  · rw [show parameterM xs = .ok (l, r) by unfold parameterM; rw [HO.out.1, HLR.out.1, HLR.out.2, HO.out.2]; rfl]
    exact ⟨by rw [partV, HTX.out]; rfl, ⟨HS3.out.1.five (by have := HX.out.1; omega) (by have := HX.out.2; omega) _ _ _ _ _, var_kept HB1.out HS3.out.2 _ _ _ _ _⟩, HGL.out⟩

theorem parameter_any {w : World} {X G sz : Nat} {xs : List Nat} (h : Rd w X G sz xs) :
    Calls Tryz.prog 151 #[.pointer (some ⟨X, 0, none⟩)] w fun e w' => ParEnd w w' e X G sz (parameterM xs) := by
  cases ho : other (next xs) with
  | false => exact parameter_name h ho
  | true =>
    have hm : parameterM xs = .ok ([next xs], xs.tail) := by unfold parameterM; rw [ho]; rfl
    rw [hm]
    refine (parameter_other h ho).mono fun e w' ⟨h1, h2⟩ => ⟨h1, h2, fun c hc => ?_⟩
    obtain rfl : c = next xs := by simpa using hc
    exact (next_lt0 h.good).resolve_left fun e => by rw [e] at ho; cases ho

theorem takesM {w : World} {X G sz : Nat} {xs : List Nat} (h : Rd w X G sz xs) (p : ByteArray) (ps : List Nat) (hp : p.data.toList.map (·.toNat) = ps) (hlow : ∀ b ∈ p.data.toList, 0 < b.toNat ∧ b.toNat < 128) {m : Option (List Nat)} (hm : takes ps xs = m) :
    Calls Tryz.prog 99 #[.pointer (some ⟨X, 0, none⟩), .string p] w fun e w' => e = .returned (.bool m.isSome) ∧ RStep w w' X G sz (m.getD xs) := by
  have := takes_any p ps hp hlow h
  rwa [hm] at this

/-- What op answers. -/
def OpEnd (w w' : World) (e : Ending) (X G sz : Nat) (xs : List Nat) (m : Option (List UInt8 × List Nat)) : Prop :=
  match m with
  | some (o, r) => e = .returned (txt o) ∧ o ≠ [] ∧ RStep w w' X G sz r
  | none => e = .returned (txt []) ∧ RStep w w' X G sz xs

set_option maxHeartbeats 1000000 in
theorem op_any {w : World} {X G sz : Nat} {xs l : List Nat} (h : Rd w X G sz xs) (hl : ∀ c ∈ l, GoodL c) :
    Calls Tryz.prog 194 #[.pointer (some ⟨X, 0, none⟩), txt (enc l)] w fun e w' => OpEnd w w' e X G sz xs (opM (nameL l) xs) := by
  obtain ⟨T, hT⟩ : ∃ T, txt (enc l) = T := ⟨_, rfl⟩
  obtain ⟨b, hb⟩ : ∃ b, nameL l = b := ⟨_, rfl⟩
  have HNM := Lib.hid (fun W => by have := nameV hl W; rw [hb, hT] at this; exact this)
  rw [hT, hb]
  obtain ⟨m1, h1⟩ : ∃ m, takes [58, 45] xs = m := ⟨_, rfl⟩
  obtain ⟨m2, h2⟩ : ∃ m, takes [58, 43] xs = m := ⟨_, rfl⟩
  obtain ⟨m3, h3⟩ : ∃ m, takes [58, 61] xs = m := ⟨_, rfl⟩
  have HR := Lib.hid h
  have H1 := Lib.hid (fun (W : World) (hR : Rd W X G sz xs) => takesM hR ⟨#[58, 45]⟩ [58, 45] rfl (by decide) h1)
  have H2 := Lib.hid (fun (W : World) (hR : Rd W X G sz xs) => takesM hR ⟨#[58, 43]⟩ [58, 43] rfl (by decide) h2)
  have H3 := Lib.hid (fun (W : World) (hR : Rd W X G sz xs) => takesM hR ⟨#[58, 61]⟩ [58, 61] rfl (by decide) h3)
  have HM := Lib.hid (And.intro h1 (And.intro h2 h3))
  have HT := Lib.hid hT
  clear h h1 h2 h3 hl hb hT
  cases m1 with
  | some r =>
    go_enter Tryz.func194, Tryz.ntmps194
    go_wp2_with (go_at_call 99; refine (H1.out _ HR.out).mono ?_; rintro e w1 ⟨rfl, hs1⟩; have HS1 := Lib.hid hs1; clear hs1)
    go_ret
    unfold opM
    rw [HM.out.1]
    exact ⟨rfl, by simp, HS1.out⟩
  | none =>
    cases m2 with
    | some r =>
      go_enter Tryz.func194, Tryz.ntmps194
      go_wp2_with fail
      refine (H1.out _ HR.out).mono ?_
      rintro e w1 ⟨rfl, hs1⟩
      have HS1 := Lib.hid hs1
      clear hs1
      go_wp2_with (go_at_call 99; refine (H2.out _ HS1.out.1).mono ?_; rintro e w2 ⟨rfl, hs2⟩; have HS2 := Lib.hid hs2; clear hs2)
      go_ret
      unfold opM
      rw [HM.out.1, HM.out.2.1]
      exact ⟨rfl, by simp, HS1.out.trans HS2.out⟩
    | none =>
      cases b with
      | false =>
        go_enter Tryz.func194, Tryz.ntmps194
        go_wp2_with fail
        refine (H1.out _ HR.out).mono ?_
        rintro e w1 ⟨rfl, hs1⟩
        have HS1 := Lib.hid hs1
        clear hs1
        go_wp2_with fail
        refine (H2.out _ HS1.out.1).mono ?_
        rintro e w2 ⟨rfl, hs2⟩
        have HS2 := Lib.hid (HS1.out.trans hs2)
        clear hs2
        go_wp2_with (go_at_call 178; refine (HNM.out _).mono ?_; rintro e w3 ⟨rfl, hb3⟩; have HS3 := Lib.hid (HS2.out.below hb3); clear hb3)
        go_ret
        unfold opM
        rw [HM.out.1, HM.out.2.1]
        exact ⟨rfl, HS3.out⟩
      | true =>
        cases m3
        all_goals
          go_enter Tryz.func194, Tryz.ntmps194
          go_wp2_with fail
          refine (H1.out _ HR.out).mono ?_
          rintro e w1 ⟨rfl, hs1⟩
          have HS1 := Lib.hid hs1
          clear hs1
          go_wp2_with fail
          refine (H2.out _ HS1.out.1).mono ?_
          rintro e w2 ⟨rfl, hs2⟩
          have HS2 := Lib.hid (HS1.out.trans hs2)
          clear hs2
          go_wp2_with (first
            | (go_at_call 178; refine (HNM.out _).mono ?_; rintro e w3 ⟨rfl, hb3⟩; have HS3 := Lib.hid (HS2.out.below hb3); clear hb3)
            | (go_at_call 99; refine (H3.out _ HS3.out.1).mono ?_; rintro e w4 ⟨rfl, hs4⟩; have HS4 := Lib.hid hs4; clear hs4))
          go_ret
          unfold opM
          rw [HM.out.1, HM.out.2.1, if_pos rfl, HM.out.2.2]
        · exact ⟨rfl, HS3.out.trans HS4.out⟩
        · exact ⟨rfl, by simp, HS3.out.trans HS4.out⟩
end Go.Proofs.YtakceggnadagmaaGreatDoor
