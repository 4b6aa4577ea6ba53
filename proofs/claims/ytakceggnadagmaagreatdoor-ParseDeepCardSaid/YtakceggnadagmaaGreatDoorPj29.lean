/-
  Proved: texts joined: Proved: the contracts of operation and braces, of whatever parts within. Conditions: the reader lies in memory.
  Proved: the contract of operation, of whatever parts within. Conditions: the reader lies in memory.
-/
import Derived.Test.YtakceggnadagmaaGreatDoorLexArith
namespace Go.Proofs.YtakceggnadagmaaGreatDoor
open Go Go.RowKit GlyphMath LexMath

/-- What parts answers. -/
def PartsEnd (w w' : World) (e : Ending) (X G sz : Nat) (m : Res (List Pt)) : Prop :=
  match m with
  | .ok (ps, xs) => ∃ v, e = .returned (.tuple #[v, .int .i64 0]) ∧ WordN w' w.heap.size v ps ∧ Rd w' X G sz xs ∧ Kept (fun k => k = X) w w'
  | .error c => (c = 2 ∨ c = 3) ∧ e = .returned (.tuple #[zeroV, .int .i64 (c : Int)]) ∧ Kept (fun k => k = X) w w'
/-- Parts within so many braces do as the model says. -/
def PartsDo (depth : Nat) (f : List Nat → Res (List Pt)) : Prop :=
  ∀ (w : World) (X G sz : Nat) (xs : List Nat), Rd w X G sz xs → Calls Tryz.prog 75 #[.pointer (some ⟨X, 0, none⟩), .int .i64 (depth : Int)] w fun e w' => PartsEnd w w' e X G sz (f xs)
/-- Braces within so many others do as the model says. -/
def BraceDo (depth : Nat) (f : List Nat → Res Pt) : Prop :=
  ∀ (w : World) (X G sz : Nat) (xs : List Nat), Rd w X G sz xs → Calls Tryz.prog 147 #[.pointer (some ⟨X, 0, none⟩), .int .i64 (depth : Int)] w fun e w' => PartEnd w w' e X G sz (f xs)


theorem firstT (c : Nat) (w : World) : Calls Tryz.prog 149 #[.int .i32 (c : Int)] w fun e w' => e = .returned (.bool (firstR (c : Int))) ∧ w = w' := first_any _ w

/-- The two variables of operation: the part that was handed in, and the answer. -/
theorem two_vars {w w' : World} {X : Nat} {Z1 : Obj} (hX : X < w.heap.size) (k : Kept (fun k => k = X) ((w.alloc Z1).alloc ZB) w') (h1 : (w.alloc Z1).heap[w.heap.size]? = some Z1) :
    w'.heap[w.heap.size]? = some Z1 ∧ w'.heap[w.heap.size + 1]? = some ZB ∧ Kept (fun k => k = X) w w' := by
  have e1 : ((w.alloc Z1).alloc ZB).heap[w.heap.size]? = some Z1 := (Below.heap_alloc _ _ _ (by simp)).trans h1
  have e2 : ((w.alloc Z1).alloc ZB).heap[w.heap.size + 1]? = some ZB := by
    have := heap_alloc_new (w.alloc Z1) ZB
    rwa [show (w.alloc Z1).heap.size = w.heap.size + 1 by simp] at this
  exact ⟨k.heap e1 (fun e => by omega), k.heap e2 (fun e => by omega), (Kept.of_below (((Below.refl _ w).alloc (Nat.le_refl _) Z1).alloc (by simp) ZB)).on k⟩

/-- A part's variable, with its text and its Op. -/
def VB (T O : ByteArray) : Obj := .cells #[.int .i64 2, .string T, .string O, .slice none 0 0, .bool false] 113

theorem hash_text {l : List Nat} (hl : ∀ c ∈ l, GoodL c) {T : ByteArray} (hT : txt (enc l) = .string T) : (T.toList == [35]) = decide (l = [35]) := by
  have e : (⟨(enc l).toArray⟩ : ByteArray) = T := by simpa [txt] using hT
  subst e
  rw [Lib.toList_data]
  by_cases h : l = [35]
  · subst h; decide
  · rw [decide_eq_false h]
    cases hc : ((⟨(enc l).toArray⟩ : ByteArray).data.toList == [35]) with
    | false => rfl
    | true =>
      have h1 : enc l = [35] := by simpa using hc
      have h2 := letters_enc l hl
      rw [h1] at h2
      have h3 : letters ⟨[35].toArray⟩ = [35] := letters_enc [35] (fun c hc => by
        obtain rfl : c = 35 := by simpa using hc
        exact ⟨by decide, by decide, .inl (by decide)⟩)
      exact absurd (h2.symm.trans h3) h
theorem Rd.one {w : World} {X G sz : Nat} {xs : List Nat} (h : Rd w X G sz xs) (a : Addr) (hX : X ≠ a.block) (hG : G ≠ a.block) (v : Value) : Rd (w.setCell a v) X G sz xs :=
  h.kept (D := fun j => j = a.block) (Kept.setCell (D := fun j => j = a.block) (Kept.refl _ _) (.inl rfl) v) hX hG
theorem part_set {w : World} {k : Nat} {a b c d e : Value} {t : TypeId} (h : w.heap[k]? = some (.cells #[a, b, c, d, e] t (0, 0))) (x : Value) :
    (w.setCell ⟨k, 2, none⟩ x).heap[k]? = some (.cells #[a, b, x, d, e] t (0, 0)) ∧ (w.setCell ⟨k, 3, none⟩ x).heap[k]? = some (.cells #[a, b, c, x, e] t (0, 0)) := ⟨heap_setCell_same w k 2 _ t x h, heap_setCell_same w k 3 _ t x h⟩
theorem new_first (w : World) (o : Obj) : (w.alloc o).heap[w.heap.size]? = some o := heap_alloc_new w o

def wordEnd (l : List Nat) (o : List UInt8) (m : Res (List Pt)) : Res Pt :=
  match m with
  | .error e => .error e
  | .ok (w, r') => .ok (⟨2, enc l, o, w, false⟩, r')
def opEnd (f : List Nat → Res (List Pt)) (l : List Nat) (m : Option (List UInt8 × List Nat)) : Res Pt :=
  match m with
  | none => .error 2
  | some (o, r) => wordEnd l o (f r)
theorem operation_else (f : List Nat → Res (List Pt)) (l xs : List Nat) (h : ¬ (l = [35] ∧ firstR (next xs : Int) = true)) : operationM f l xs = opEnd f l (opM (nameL l) xs) := by
  unfold operationM
  rw [if_neg h]
  cases opM (nameL l) xs with
  | none => rfl
  | some a =>
    obtain ⟨o, r⟩ := a
    simp only [opEnd, wordEnd]
    cases f r <;> rfl

set_option maxHeartbeats 1000000 in
set_option maxRecDepth 100000 in
theorem operation_other {depth : Nat} {f : List Nat → Res (List Pt)} (hP : PartsDo (depth + 1) f) (hd : depth ≤ 100) {w : World} {X G sz : Nat} {xs l : List Nat} (h : Rd w X G sz xs) (hl : ∀ c ∈ l, GoodL c) (hne : l ≠ [35] ∨ firstR (next xs : Int) = false) (T : ByteArray) (hT : txt (enc l) = .string T) :
    Calls Tryz.prog 174 #[.pointer (some ⟨X, 0, none⟩), .agg #[.int .i64 2, .string T, .string ⟨#[]⟩, .slice none 0 0, .bool false], .int .i64 (depth : Int)] w fun e w' => PartEnd w w' e X G sz (operationM f l xs) := by
  have hX := h.lt
  have hr0 : Rd ((w.alloc (VB T ⟨#[]⟩)).alloc ZB) X G sz xs := h.below (((Below.refl _ w).alloc (Nat.le_refl _) _).alloc (by simp) _)
  have HR0 := Lib.hid hr0
  have HN := Lib.hid (next_any hr0)
  obtain ⟨fb, hfb⟩ : ∃ fb, firstR (next xs : Int) = fb := ⟨_, rfl⟩
  have HFI := Lib.hid (fun W => by have := firstT (next xs) W; rw [hfb] at this; exact this)
  obtain ⟨hb, hhb⟩ : ∃ hb, (T.toList == [35]) = hb := ⟨_, rfl⟩
  have hnot : (hb = true → fb = false) := fun e => by
    rw [← hhb, hash_text hl hT, decide_eq_true_eq] at e
    rcases hne with h1 | h1
    · exact absurd e h1
    · rw [← hfb]; exact h1
  obtain ⟨m, hm⟩ : ∃ m, opM (nameL l) xs = m := ⟨_, rfl⟩
  have HOP := Lib.hid (show _ from by have := op_any hr0 hl; rw [hT, hm] at this; exact this)
  have HM := Lib.hid (show operationM f l xs = opEnd f l m by
    rw [← hm]
    refine operation_else f l xs ?_
    rintro ⟨h1, h2⟩
    rcases hne with h3 | h3
    · exact h3 h1
    · rw [h2] at h3; cases h3)
  have HP := Lib.hid hP
  have HX := Lib.hid hX
  have HT := Lib.hid hT
  have hdi : (depth : Int) ≤ 100 := by omega
  have hdj : (0 : Int) ≤ (depth : Int) := by omega
  have hdk : ((depth + 1 : Nat) : Int) = (depth : Int) + 1 := by omega
  have HDK := Lib.hid hdk
  clear h hl hne hT hX hr0 hP hm hd hdk hfb
  have two := fun (w' : World) (k : Kept (fun k => k = X) ((w.alloc (VB T ⟨#[]⟩)).alloc ZB) w') => two_vars HX.out.1 k (new_first w _)
  have TWO := Lib.hid two
  clear two
  cases hb with
  | true =>
    obtain rfl : fb = false := hnot rfl
    clear hnot
    cases m with
    | none =>
      go_enter Tryz.func174, Tryz.ntmps174
      go_wp2_with (first
        | (go_at_call 72; refine HN.out.mono ?_; rintro e w1 ⟨rfl, rfl⟩; simp only [VB, ZB])
        | (go_at_call 149; refine (HFI.out _).mono ?_; rintro e w1 ⟨rfl, rfl⟩))
      refine HOP.out.mono ?_
      rintro e w1 ⟨rfl, hs1⟩
      rw [show txt [] = .string ⟨#[]⟩ from rfl]
      obtain ⟨v1, v2, kw⟩ := TWO.out w1 hs1.2
      obtain ⟨d0, d1, d2, d3, d4⟩ := five_cells v1
      have fz := five_free v1
      have f0 := fz 0
      have f1 := fz 1
      have f2 := fz 2
      have f3 := fz 3
      have f4 := fz 4
      obtain ⟨x0, x1, x2, x3, x4⟩ := five_cells v2
      have gz := five_free v2
      have g0 := gz 0
      have g1 := gz 1
      have g2 := gz 2
      have g3 := gz 3
      have g4 := gz 4
      have HV := Lib.hid (And.intro v1 (And.intro v2 kw))
      have HS1 := Lib.hid hs1
      clear v1 v2 kw fz gz hs1
      go_wp2_with fail
      (try simp only [Exit.inBlock, Exit.then])
      obtain ⟨v1, v2, kw⟩ := HV.out
      have hx := HX.out
      refine bodyPost_ret (ret_part rfl (five_put ((Below.heap_setCell _ _ _ _ (by simp)).trans v2) _ _ _ _ _) rfl rfl) rfl ?_
      rw [HM.out]
      refine ⟨.inl rfl, ⟨⟨2, enc l, [], [], false⟩, by rw [partV, HT.out]; rfl⟩, ?_⟩
      exact (kw.trans ((Kept.refl (fun k => w.heap.size ≤ k) w1).setCell (.inl (Nat.le_refl _)) _) (fun _ h => .inr h)).trans (five_kept (D := fun k => w.heap.size ≤ k) (Kept.refl _ _) (.inl (by omega)) _ _ _ _ _) (fun _ h => .inr h)
    | some a =>
      obtain ⟨o, r⟩ := a
      go_enter Tryz.func174, Tryz.ntmps174
      go_wp2_with (first
        | (go_at_call 72; refine HN.out.mono ?_; rintro e w1 ⟨rfl, rfl⟩; simp only [VB, ZB])
        | (go_at_call 149; refine (HFI.out _).mono ?_; rintro e w1 ⟨rfl, rfl⟩))
      refine HOP.out.mono ?_
      rintro e w1 ⟨rfl, ho, hs1⟩
      obtain ⟨O, hO⟩ : ∃ O : ByteArray, txt o = .string O := ⟨_, rfl⟩
      have hOe : O.toList.isEmpty = false := by
        have e : (⟨o.toArray⟩ : ByteArray) = O := by simpa [txt] using hO
        rw [← e, Lib.toList_data]
        cases o with
        | nil => exact absurd rfl ho
        | cons a b => rfl
      rw [hO]
      have HO := Lib.hid hO
      clear ho hO
      obtain ⟨v1, v2, kw⟩ := TWO.out w1 hs1.2
      obtain ⟨d0, d1, d2, d3, d4⟩ := five_cells v1
      have fz := five_free v1
      have f0 := fz 0
      have f1 := fz 1
      have f2 := fz 2
      have f3 := fz 3
      have f4 := fz 4
      obtain ⟨x0, x1, x2, x3, x4⟩ := five_cells v2
      have gz := five_free v2
      have g0 := gz 0
      have g1 := gz 1
      have g2 := gz 2
      have g3 := gz 3
      have g4 := gz 4
      have HV := Lib.hid (And.intro v1 (And.intro v2 kw))
      have HS1 := Lib.hid hs1
      clear v1 v2 kw fz gz hs1
      go_wp2_with fail
      have hx := HX.out
      obtain ⟨w2, hw2⟩ : ∃ w2, w1.setCell ⟨w.heap.size, 2, none⟩ (.string O) = w2 := ⟨_, rfl⟩
      have hv2 := (part_set HV.out.1 (.string O)).1
      rw [hw2] at hv2
      have hz2 : w2.heap[w.heap.size + 1]? = some ZB := by rw [← hw2]; exact (Below.heap_setCell _ _ _ _ (by simp)).trans HV.out.2.1
      have hr2 : Rd w2 X G sz r := by rw [← hw2]; exact HS1.out.1.one _ (by simp; omega) (by simp; omega) _
      have hk2 : Kept (fun k => k = X) w w2 := by rw [← hw2]; exact HV.out.2.2.trans ((Kept.refl (fun k => w.heap.size ≤ k) w1).setCell (.inl (Nat.le_refl _)) _) (fun _ h => .inr h)
      have hs2 : w.heap.size + 1 < w2.heap.size := (Array.getElem?_eq_some_iff.1 hz2).1
      have hp := HP.out w2 X G sz r hr2
      rw [HDK.out] at hp
      obtain ⟨fr, hfr⟩ : ∃ fr, f r = fr := ⟨_, rfl⟩
      rw [hfr] at hp
      have HP2 := Lib.hid hp
      have HFR := Lib.hid hfr
      have H2 := Lib.hid (And.intro hv2 (And.intro hz2 (And.intro hr2 (And.intro hk2 hs2))))
      have HW2 := Lib.hid hw2
      clear hp hfr hv2 hz2 hr2 hk2 hs2 hx
      rw [HW2.out]
      clear d0 d1 d2 d3 d4 f0 f1 f2 f3 f4 x0 x1 x2 x3 x4 g0 g1 g2 g3 g4 hw2
      cases fr with
      | error cc =>
        refine HP2.out.mono ?_
        rintro e w3 ⟨hcc, rfl, hk3⟩
        rw [show zeroV = .slice none 0 0 from rfl]
        have hx := HX.out
        have v1 := hk3.heap H2.out.1 (fun e => by omega)
        have v2 := hk3.heap H2.out.2.1 (fun e => by omega)
        obtain ⟨d0, d1, d2, d3, d4⟩ := five_cells v1
        have fz := five_free v1
        have f3 := fz 3
        obtain ⟨x0, x1, x2, x3, x4⟩ := five_cells v2
        have gz := five_free v2
        have g0 := gz 0
        have g1 := gz 1
        have g2 := gz 2
        have g3 := gz 3
        have g4 := gz 4
        have H3 := Lib.hid (And.intro v1 (And.intro v2 (And.intro hcc hk3)))
        clear v1 v2 fz gz hk3 hcc hx
        go_wp2_with fail
        (try simp only [Exit.inBlock, Exit.then])
        obtain ⟨v1, v2, hcc, hk3⟩ := H3.out
        refine bodyPost_ret (ret_part rfl (five_put ((Below.heap_setCell _ _ _ _ (by simp)).trans v2) _ _ _ _ _) rfl rfl) rfl ?_
        rw [HM.out, opEnd, HFR.out]
        refine ⟨hcc, ⟨⟨2, enc l, o, [], false⟩, by rw [partV, HT.out, HO.out]; rfl⟩, ?_⟩
        exact ((H2.out.2.2.2.1.on hk3).trans ((Kept.refl (fun k => w.heap.size ≤ k) w3).setCell (.inl (Nat.le_refl _)) _) (fun _ h => .inr h)).trans (five_kept (D := fun k => w.heap.size ≤ k) (Kept.refl _ _) (.inl (by omega)) _ _ _ _ _) (fun _ h => .inr h)
      | ok bb =>
        obtain ⟨ps, r'⟩ := bb
        refine HP2.out.mono ?_
        rintro e w3 ⟨v, rfl, hwn, hr3, hk3⟩
        obtain ⟨ad, cp, rfl⟩ := hwn.shape
        obtain ⟨np, hnp⟩ : ∃ np, ps.length = np := ⟨_, rfl⟩
        rw [hnp] at hwn ⊢
        have hx := HX.out
        have v1 := hk3.heap H2.out.1 (fun e => by omega)
        have v2 := hk3.heap H2.out.2.1 (fun e => by omega)
        obtain ⟨d0, d1, d2, d3, d4⟩ := five_cells v1
        have fz := five_free v1
        have f3 := fz 3
        obtain ⟨x0, x1, x2, x3, x4⟩ := five_cells v2
        have gz := five_free v2
        have g0 := gz 0
        have g1 := gz 1
        have g2 := gz 2
        have g3 := gz 3
        have g4 := gz 4
        have H3 := Lib.hid (And.intro v1 (And.intro v2 (And.intro hwn (And.intro hr3 hk3))))
        clear v1 v2 fz gz hk3 hwn hr3 hx hnp
        go_wp2_with fail
        (try simp only [Exit.inBlock, Exit.then])
        obtain ⟨v1, v2, hwn, hr3, hk3⟩ := H3.out
        have hx := HX.out
        have hkk := (((Kept.refl (fun k => k = w.heap.size ∨ k = w.heap.size + 1) w3).setCell (p := ⟨w.heap.size, 3, none⟩) (.inl (.inl rfl)) (.slice ad np cp)).on (five_kept (D := fun k => k = w.heap.size ∨ k = w.heap.size + 1) (Kept.refl _ _) (.inl (.inr rfl)) (.int .i64 2) (.string T) (.string O) (.slice ad np cp) (.bool false)))
        have hs2 := H2.out.2.2.2.2
        refine bodyPost_ret (ret_part rfl (five_put ((Below.heap_setCell _ _ _ _ (by simp)).trans v2) _ _ _ _ _) rfl rfl) rfl ?_
        rw [HM.out, opEnd, HFR.out]
        refine ⟨.slice ad np cp, by rw [partV, HT.out, HO.out]; rfl, (hwn.kept hkk (fun k hk e => by omega)).base (by omega), hr3.kept hkk (by omega) (by omega), ?_⟩
        exact (H2.out.2.2.2.1.on hk3).trans hkk (fun i h => .inr (by omega))
  | false =>
    clear hnot
    cases m with
    | none =>
      go_enter Tryz.func174, Tryz.ntmps174
      go_wp2_with fail
      refine HOP.out.mono ?_
      rintro e w1 ⟨rfl, hs1⟩
      rw [show txt [] = .string ⟨#[]⟩ from rfl]
      obtain ⟨v1, v2, kw⟩ := TWO.out w1 hs1.2
      obtain ⟨d0, d1, d2, d3, d4⟩ := five_cells v1
      have fz := five_free v1
      have f0 := fz 0
      have f1 := fz 1
      have f2 := fz 2
      have f3 := fz 3
      have f4 := fz 4
      obtain ⟨x0, x1, x2, x3, x4⟩ := five_cells v2
      have gz := five_free v2
      have g0 := gz 0
      have g1 := gz 1
      have g2 := gz 2
      have g3 := gz 3
      have g4 := gz 4
      have HV := Lib.hid (And.intro v1 (And.intro v2 kw))
      have HS1 := Lib.hid hs1
      clear v1 v2 kw fz gz hs1
      go_wp2_with fail
      (try simp only [Exit.inBlock, Exit.then])
      obtain ⟨v1, v2, kw⟩ := HV.out
      have hx := HX.out
      refine bodyPost_ret (ret_part rfl (five_put ((Below.heap_setCell _ _ _ _ (by simp)).trans v2) _ _ _ _ _) rfl rfl) rfl ?_
      rw [HM.out]
      refine ⟨.inl rfl, ⟨⟨2, enc l, [], [], false⟩, by rw [partV, HT.out]; rfl⟩, ?_⟩
      exact (kw.trans ((Kept.refl (fun k => w.heap.size ≤ k) w1).setCell (.inl (Nat.le_refl _)) _) (fun _ h => .inr h)).trans (five_kept (D := fun k => w.heap.size ≤ k) (Kept.refl _ _) (.inl (by omega)) _ _ _ _ _) (fun _ h => .inr h)
    | some a =>
      obtain ⟨o, r⟩ := a
      go_enter Tryz.func174, Tryz.ntmps174
      go_wp2_with fail
      refine HOP.out.mono ?_
      rintro e w1 ⟨rfl, ho, hs1⟩
      obtain ⟨O, hO⟩ : ∃ O : ByteArray, txt o = .string O := ⟨_, rfl⟩
      have hOe : O.toList.isEmpty = false := by
        have e : (⟨o.toArray⟩ : ByteArray) = O := by simpa [txt] using hO
        rw [← e, Lib.toList_data]
        cases o with
        | nil => exact absurd rfl ho
        | cons a b => rfl
      rw [hO]
      have HO := Lib.hid hO
      clear ho hO
      obtain ⟨v1, v2, kw⟩ := TWO.out w1 hs1.2
      obtain ⟨d0, d1, d2, d3, d4⟩ := five_cells v1
      have fz := five_free v1
      have f0 := fz 0
      have f1 := fz 1
      have f2 := fz 2
      have f3 := fz 3
      have f4 := fz 4
      obtain ⟨x0, x1, x2, x3, x4⟩ := five_cells v2
      have gz := five_free v2
      have g0 := gz 0
      have g1 := gz 1
      have g2 := gz 2
      have g3 := gz 3
      have g4 := gz 4
      have HV := Lib.hid (And.intro v1 (And.intro v2 kw))
      have HS1 := Lib.hid hs1
      clear v1 v2 kw fz gz hs1
      go_wp2_with fail
      have hx := HX.out
      obtain ⟨w2, hw2⟩ : ∃ w2, w1.setCell ⟨w.heap.size, 2, none⟩ (.string O) = w2 := ⟨_, rfl⟩
      have hv2 := (part_set HV.out.1 (.string O)).1
      rw [hw2] at hv2
      have hz2 : w2.heap[w.heap.size + 1]? = some ZB := by rw [← hw2]; exact (Below.heap_setCell _ _ _ _ (by simp)).trans HV.out.2.1
      have hr2 : Rd w2 X G sz r := by rw [← hw2]; exact HS1.out.1.one _ (by simp; omega) (by simp; omega) _
      have hk2 : Kept (fun k => k = X) w w2 := by rw [← hw2]; exact HV.out.2.2.trans ((Kept.refl (fun k => w.heap.size ≤ k) w1).setCell (.inl (Nat.le_refl _)) _) (fun _ h => .inr h)
      have hs2 : w.heap.size + 1 < w2.heap.size := (Array.getElem?_eq_some_iff.1 hz2).1
      have hp := HP.out w2 X G sz r hr2
      rw [HDK.out] at hp
      obtain ⟨fr, hfr⟩ : ∃ fr, f r = fr := ⟨_, rfl⟩
      rw [hfr] at hp
      have HP2 := Lib.hid hp
      have HFR := Lib.hid hfr
      have H2 := Lib.hid (And.intro hv2 (And.intro hz2 (And.intro hr2 (And.intro hk2 hs2))))
      have HW2 := Lib.hid hw2
      clear hp hfr hv2 hz2 hr2 hk2 hs2 hx
      rw [HW2.out]
      clear d0 d1 d2 d3 d4 f0 f1 f2 f3 f4 x0 x1 x2 x3 x4 g0 g1 g2 g3 g4 hw2
      cases fr with
      | error cc =>
        refine HP2.out.mono ?_
        rintro e w3 ⟨hcc, rfl, hk3⟩
        rw [show zeroV = .slice none 0 0 from rfl]
        have hx := HX.out
        have v1 := hk3.heap H2.out.1 (fun e => by omega)
        have v2 := hk3.heap H2.out.2.1 (fun e => by omega)
        obtain ⟨d0, d1, d2, d3, d4⟩ := five_cells v1
        have fz := five_free v1
        have f3 := fz 3
        obtain ⟨x0, x1, x2, x3, x4⟩ := five_cells v2
        have gz := five_free v2
        have g0 := gz 0
        have g1 := gz 1
        have g2 := gz 2
        have g3 := gz 3
        have g4 := gz 4
        have H3 := Lib.hid (And.intro v1 (And.intro v2 (And.intro hcc hk3)))
        clear v1 v2 fz gz hk3 hcc hx
        go_wp2_with fail
        (try simp only [Exit.inBlock, Exit.then])
        obtain ⟨v1, v2, hcc, hk3⟩ := H3.out
        refine bodyPost_ret (ret_part rfl (five_put ((Below.heap_setCell _ _ _ _ (by simp)).trans v2) _ _ _ _ _) rfl rfl) rfl ?_
        rw [HM.out, opEnd, HFR.out]
        refine ⟨hcc, ⟨⟨2, enc l, o, [], false⟩, by rw [partV, HT.out, HO.out]; rfl⟩, ?_⟩
        exact ((H2.out.2.2.2.1.on hk3).trans ((Kept.refl (fun k => w.heap.size ≤ k) w3).setCell (.inl (Nat.le_refl _)) _) (fun _ h => .inr h)).trans (five_kept (D := fun k => w.heap.size ≤ k) (Kept.refl _ _) (.inl (by omega)) _ _ _ _ _) (fun _ h => .inr h)
      | ok bb =>
        obtain ⟨ps, r'⟩ := bb
        refine HP2.out.mono ?_
        rintro e w3 ⟨v, rfl, hwn, hr3, hk3⟩
        obtain ⟨ad, cp, rfl⟩ := hwn.shape
        obtain ⟨np, hnp⟩ : ∃ np, ps.length = np := ⟨_, rfl⟩
        rw [hnp] at hwn ⊢
        have hx := HX.out
        have v1 := hk3.heap H2.out.1 (fun e => by omega)
        have v2 := hk3.heap H2.out.2.1 (fun e => by omega)
        obtain ⟨d0, d1, d2, d3, d4⟩ := five_cells v1
        have fz := five_free v1
        have f3 := fz 3
        obtain ⟨x0, x1, x2, x3, x4⟩ := five_cells v2
        have gz := five_free v2
        have g0 := gz 0
        have g1 := gz 1
        have g2 := gz 2
        have g3 := gz 3
        have g4 := gz 4
        have H3 := Lib.hid (And.intro v1 (And.intro v2 (And.intro hwn (And.intro hr3 hk3))))
        clear v1 v2 fz gz hk3 hwn hr3 hx hnp
        go_wp2_with fail
        (try simp only [Exit.inBlock, Exit.then])
        obtain ⟨v1, v2, hwn, hr3, hk3⟩ := H3.out
        have hx := HX.out
        have hkk := (((Kept.refl (fun k => k = w.heap.size ∨ k = w.heap.size + 1) w3).setCell (p := ⟨w.heap.size, 3, none⟩) (.inl (.inl rfl)) (.slice ad np cp)).on (five_kept (D := fun k => k = w.heap.size ∨ k = w.heap.size + 1) (Kept.refl _ _) (.inl (.inr rfl)) (.int .i64 2) (.string T) (.string O) (.slice ad np cp) (.bool false)))
        have hs2 := H2.out.2.2.2.2
        refine bodyPost_ret (ret_part rfl (five_put ((Below.heap_setCell _ _ _ _ (by simp)).trans v2) _ _ _ _ _) rfl rfl) rfl ?_
        rw [HM.out, opEnd, HFR.out]
        refine ⟨.slice ad np cp, by rw [partV, HT.out, HO.out]; rfl, (hwn.kept hkk (fun k hk e => by omega)).base (by omega), hr3.kept hkk (by omega) (by omega), ?_⟩
        exact (H2.out.2.2.2.1.on hk3).trans hkk (fun i h => .inr (by omega))
end Go.Proofs.YtakceggnadagmaaGreatDoor

namespace Go.Proofs.YtakceggnadagmaaGreatDoor
open Go Go.RowKit GlyphMath LexMath

def hashEnd (m : Res (List Nat)) : Res Pt :=
  match m with
  | .error e => .error e
  | .ok (l', r) => .ok (⟨2, enc l', [35], [], false⟩, r)
theorem operation_is (f : List Nat → Res (List Pt)) (xs : List Nat) (h : firstR (next xs : Int) = true) : operationM f [35] xs = hashEnd (parameterM xs) := by
  unfold operationM hashEnd
  rw [if_pos ⟨rfl, h⟩]
  cases parameterM xs <;> rfl
theorem five_there {w : World} {k : Nat} {a b c d e : Value} {t : TypeId} (h : w.heap[k]? = some (.cells #[a, b, c, d, e] t (0, 0))) : w.there k 0 5 := by
  intro j hj
  refine ⟨?_, by rw [Nat.zero_add]; exact five_free h j⟩
  obtain ⟨x0, x1, x2, x3, x4⟩ := five_cells h
  match j, hj with
  | 0, _ => rw [x0]; rfl
  | 1, _ => rw [x1]; rfl
  | 2, _ => rw [x2]; rfl
  | 3, _ => rw [x3]; rfl
  | 4, _ => rw [x4]; rfl
/-- Five cells are stored at once. -/
theorem five_stored {w w2 : World} {k : Nat} {x0 x1 x2 x3 x4 : Value} {t : TypeId} (h : w.heap[k]? = some (.cells #[x0, x1, x2, x3, x4] t (0, 0))) {a b c d e : Value} (hw : w2 = w.setCells k 0 (#[a, b, c, d, e] : Array Value).toList) :
    w2.heap[k]? = some (.cells #[a, b, c, d, e] t (0, 0)) ∧ Kept (fun j => j = k) w w2 ∧ ∀ j, j ≠ k → w2.heap[j]? = w.heap[j]? := by
  subst hw
  have hk : Kept (fun j => j = k) w (w.setCells k 0 (#[a, b, c, d, e] : Array Value).toList) := five_kept (D := fun j => j = k) (Kept.refl _ w) (.inl rfl) a b c d e
  refine ⟨five_put h a b c d e, hk, fun j hj => ?_⟩
  show (((((w.setCell ⟨k, 0, none⟩ a).setCell ⟨k, 1, none⟩ b).setCell ⟨k, 2, none⟩ c).setCell ⟨k, 3, none⟩ d).setCell ⟨k, 4, none⟩ e).heap[j]? = _
  rw [Below.heap_setCell _ _ _ _ hj, Below.heap_setCell _ _ _ _ hj, Below.heap_setCell _ _ _ _ hj, Below.heap_setCell _ _ _ _ hj, Below.heap_setCell _ _ _ _ hj]

set_option maxHeartbeats 400000 in
set_option maxRecDepth 100000 in
theorem operation_hash {depth : Nat} {f : List Nat → Res (List Pt)} {w : World} {X G sz : Nat} {xs : List Nat} (h : Rd w X G sz xs) (hfi : firstR (next xs : Int) = true) :
    Calls Tryz.prog 174 #[.pointer (some ⟨X, 0, none⟩), .agg #[.int .i64 2, .string ⟨#[35]⟩, .string ⟨#[]⟩, .slice none 0 0, .bool false], .int .i64 (depth : Int)] w fun e w' => PartEnd w w' e X G sz (operationM f [35] xs) := by
  have hX := h.lt
  have hr0 : Rd ((w.alloc (VB ⟨#[35]⟩ ⟨#[]⟩)).alloc ZB) X G sz xs := h.below (((Below.refl _ w).alloc (Nat.le_refl _) _).alloc (by simp) _)
  have HN := Lib.hid (next_any hr0)
  have HPA := Lib.hid (parameter_any hr0)
  have HFI := Lib.hid (fun W => by have := firstT (next xs) W; rw [hfi] at this; exact this)
  obtain ⟨m, hm⟩ : ∃ m, parameterM xs = m := ⟨_, rfl⟩
  have HM := Lib.hid (show operationM f [35] xs = hashEnd m by rw [← hm]; exact operation_is f xs hfi)
  rw [hm] at HPA
  have HX := Lib.hid hX
  have two := fun (w' : World) (k : Kept (fun k => k = X) ((w.alloc (VB ⟨#[35]⟩ ⟨#[]⟩)).alloc ZB) w') => two_vars hX.1 k (new_first w _)
  have TWO := Lib.hid two
  clear h hX hr0 hfi hm two
  cases m with
  | error cc =>
    go_enter Tryz.func174, Tryz.ntmps174
    go_wp2_with (first
      | (go_at_call 72; refine HN.out.mono ?_; rintro e w1 ⟨rfl, rfl⟩; simp only [VB, ZB])
      | (go_at_call 149; refine (HFI.out _).mono ?_; rintro e w1 ⟨rfl, rfl⟩))
    refine HPA.out.mono ?_
    rintro e w1 ⟨hcc, rfl, hk1⟩
    rw [show partV ⟨0, [], [], [], false⟩ zeroV = .agg #[.int .i64 0, .string ⟨#[]⟩, .string ⟨#[]⟩, .slice none 0 0, .bool false] from rfl]
    obtain ⟨v1, v2, kw⟩ := TWO.out w1 hk1
    obtain ⟨d0, d1, d2, d3, d4⟩ := five_cells v1
    have fz := five_free v1
    have f0 := fz 0
    have f1 := fz 1
    have f2 := fz 2
    have f3 := fz 3
    have f4 := fz 4
    obtain ⟨x0, x1, x2, x3, x4⟩ := five_cells v2
    have gz := five_free v2
    have g0 := gz 0
    have g1 := gz 1
    have g2 := gz 2
    have g3 := gz 3
    have g4 := gz 4
    have HV := Lib.hid (And.intro v1 (And.intro v2 (And.intro kw hcc)))
    clear v1 v2 kw fz gz hk1 hcc d0 d1 d2 d3 d4 f0 f1 f2 f3 f4
    go_wp2_with (refine wpList_store_mid (by rfl) 113 (.tmp 4) (.tmp 20) (by rfl) w.heap.size 0 #[.int .i64 0, .string ⟨#[]⟩, .string ⟨#[]⟩, .slice none 0 0, .bool false] (by rfl) (by rfl) (five_there HV.out.1) part_info (by simp [Value.oneCell']) ?_; obtain ⟨w2, hw2⟩ : ∃ w2, w2 = w1.setCells w.heap.size 0 (#[.int .i64 0, .string ⟨#[]⟩, .string ⟨#[]⟩, .slice none 0 0, .bool false] : Array Value).toList := ⟨_, rfl⟩; rw [← hw2]; obtain ⟨y1, y2, y3⟩ := five_stored HV.out.1 hw2; obtain ⟨d0, d1, d2, d3, d4⟩ := five_cells y1; have f2 := five_free y1 2; have y4 := (y3 (w.heap.size + 1) (by omega)).trans HV.out.2.1; clear x0 x1 x2 x3 x4 g0 g1 g2 g3 g4; obtain ⟨x0, x1, x2, x3, x4⟩ := five_cells y4; have g0 := five_free y4 0; have g1 := five_free y4 1; have g2 := five_free y4 2; have g3 := five_free y4 3; have g4 := five_free y4 4; have HY := Lib.hid (And.intro y1 (And.intro y2 y4)); clear y1 y2 y3 y4 hw2)
    (try simp only [Exit.inBlock, Exit.then])
    obtain ⟨y1, y2, y4⟩ := HY.out
    obtain ⟨v1, v2, kw, hcc⟩ := HV.out
    have hk2 : Kept (fun k => w.heap.size ≤ k) w1 w2 := y2.mono fun k _ e => by omega
    refine bodyPost_ret (ret_part rfl (five_put ((Below.heap_setCell _ _ _ _ (by simp)).trans y4) _ _ _ _ _) rfl rfl) rfl ?_
    rw [HM.out, hcc]
    refine ⟨.inl rfl, ⟨⟨0, [], [35], [], false⟩, rfl⟩, ?_⟩
    exact ((kw.trans hk2 (fun _ h => .inr h)).trans ((Kept.refl (fun k => w.heap.size ≤ k) w2).setCell (.inl (Nat.le_refl _)) _) (fun _ h => .inr h)).trans (five_kept (D := fun k => w.heap.size ≤ k) (Kept.refl _ _) (.inl (by omega)) _ _ _ _ _) (fun _ h => .inr h)
  | ok b =>
    obtain ⟨l, r⟩ := b
    go_enter Tryz.func174, Tryz.ntmps174
    go_wp2_with (first
      | (go_at_call 72; refine HN.out.mono ?_; rintro e w1 ⟨rfl, rfl⟩; simp only [VB, ZB])
      | (go_at_call 149; refine (HFI.out _).mono ?_; rintro e w1 ⟨rfl, rfl⟩))
    refine HPA.out.mono ?_
    rintro e w1 ⟨rfl, hs1, hgl⟩
    obtain ⟨T, hT⟩ : ∃ T : ByteArray, txt (enc l) = .string T := ⟨_, rfl⟩
    rw [show partV ⟨2, enc l, [], [], false⟩ zeroV = .agg #[.int .i64 2, .string T, .string ⟨#[]⟩, .slice none 0 0, .bool false] by rw [partV, hT]; rfl]
    obtain ⟨v1, v2, kw⟩ := TWO.out w1 hs1.2
    obtain ⟨d0, d1, d2, d3, d4⟩ := five_cells v1
    have fz := five_free v1
    have f0 := fz 0
    have f1 := fz 1
    have f2 := fz 2
    have f3 := fz 3
    have f4 := fz 4
    obtain ⟨x0, x1, x2, x3, x4⟩ := five_cells v2
    have gz := five_free v2
    have g0 := gz 0
    have g1 := gz 1
    have g2 := gz 2
    have g3 := gz 3
    have g4 := gz 4
    have HV := Lib.hid (And.intro v1 (And.intro v2 (And.intro kw (And.intro hs1 hT))))
    clear v1 v2 kw fz gz hs1 hgl hT d0 d1 d2 d3 d4 f0 f1 f2 f3 f4
    go_wp2_with (refine wpList_store_mid (by rfl) 113 (.tmp 4) (.tmp 20) (by rfl) w.heap.size 0 #[.int .i64 2, .string T, .string ⟨#[]⟩, .slice none 0 0, .bool false] (by rfl) (by rfl) (five_there HV.out.1) part_info (by simp [Value.oneCell']) ?_; obtain ⟨w2, hw2⟩ : ∃ w2, w2 = w1.setCells w.heap.size 0 (#[.int .i64 2, .string T, .string ⟨#[]⟩, .slice none 0 0, .bool false] : Array Value).toList := ⟨_, rfl⟩; rw [← hw2]; obtain ⟨y1, y2, y3⟩ := five_stored HV.out.1 hw2; obtain ⟨d0, d1, d2, d3, d4⟩ := five_cells y1; have f2 := five_free y1 2; have y4 := (y3 (w.heap.size + 1) (by omega)).trans HV.out.2.1; clear x0 x1 x2 x3 x4 g0 g1 g2 g3 g4; obtain ⟨x0, x1, x2, x3, x4⟩ := five_cells y4; have g0 := five_free y4 0; have g1 := five_free y4 1; have g2 := five_free y4 2; have g3 := five_free y4 3; have g4 := five_free y4 4; have HY := Lib.hid (And.intro y1 (And.intro y2 y4)); clear y1 y2 y3 y4 hw2)
    (try simp only [Exit.inBlock, Exit.then])
    obtain ⟨y1, y2, y4⟩ := HY.out
    obtain ⟨v1, v2, kw, hs1, hT⟩ := HV.out
    have hx := HX.out
    have hk2 : Kept (fun k => w.heap.size ≤ k) w1 w2 := y2.mono fun k _ e => by omega
    have hk3 : Kept (fun k => w.heap.size ≤ k) w2 ((((((w2.setCell ⟨w.heap.size, 2, none⟩ (.string ⟨#[35]⟩)).setCell ⟨w.heap.size + 1, 0, none⟩ (.int .i64 2)).setCell ⟨w.heap.size + 1, 1, none⟩ (.string T)).setCell ⟨w.heap.size + 1, 2, none⟩ (.string ⟨#[35]⟩)).setCell ⟨w.heap.size + 1, 3, none⟩ (.slice none 0 0)).setCell ⟨w.heap.size + 1, 4, none⟩ (.bool false)) :=
      ((Kept.refl (fun k => w.heap.size ≤ k) w2).setCell (.inl (Nat.le_refl _)) _).on (five_kept (D := fun k => w.heap.size ≤ k) (Kept.refl _ _) (.inl (by omega)) _ _ _ _ _)
    refine bodyPost_ret (ret_part rfl (five_put ((Below.heap_setCell _ _ _ _ (by simp)).trans y4) _ _ _ _ _) rfl rfl) rfl ?_
    rw [HM.out]
    refine ⟨zeroV, by rw [partV, hT]; rfl, WordN.nil _ _, (hs1.1.kept hk2 (by omega) (by omega)).kept hk3 (by omega) (by omega), ?_⟩
    exact (kw.trans hk2 (fun _ h => .inr h)).trans hk3 (fun _ h => .inr h)

theorem operation_any {depth : Nat} {f : List Nat → Res (List Pt)} (hP : PartsDo (depth + 1) f) (hd : depth ≤ 100) {w : World} {X G sz : Nat} {xs l : List Nat} (h : Rd w X G sz xs) (hl : ∀ c ∈ l, GoodL c) (T : ByteArray) (hT : txt (enc l) = .string T) :
    Calls Tryz.prog 174 #[.pointer (some ⟨X, 0, none⟩), .agg #[.int .i64 2, .string T, .string ⟨#[]⟩, .slice none 0 0, .bool false], .int .i64 (depth : Int)] w fun e w' => PartEnd w w' e X G sz (operationM f l xs) := by
  by_cases h1 : l = [35]
  · cases h2 : firstR (next xs : Int) with
    | false => exact operation_other hP hd h hl (.inr h2) T hT
    | true =>
      subst h1
      obtain rfl : T = ⟨#[35]⟩ := by
        have e : (⟨(enc [35]).toArray⟩ : ByteArray) = T := by simpa [txt] using hT
        rw [← e]; rfl
      exact operation_hash h h2
  · exact operation_other hP hd h hl (.inl h1) T hT
end Go.Proofs.YtakceggnadagmaaGreatDoor
