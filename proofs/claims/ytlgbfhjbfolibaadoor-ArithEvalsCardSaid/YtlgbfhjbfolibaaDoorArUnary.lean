/-
  Proved: the statements' own unary, where a sign or a parenthesis is ahead. Conditions: it does so where less is left; the reckoner lies in memory.
-/
import Derived.Test.YtlgbfhjbfolibaaDoorArRefTok
namespace Go.Proofs.YtlgbfhjbfolibaaDoor
open Go Go.RowKit ArMath GlyphMath

section
variable {w : World} {X : Nat} {l r q : B} {vv : Value} {f m : Bool} {vs : Vars} {n : Nat}
theorem reat_no (t : B) (ht : t.length ≤ 2) (hl : l.length ≤ 2147483648) (hp : preB f t r = false) (h : Rf w X l vv r f m) :
    Calls Tryd.prog 29 #[.pointer (some ⟨X, 0, none⟩), .string (tx t)] w fun e w' => e = .returned (.bool false) ∧ Rf w' X l vv (skipB r) f m ∧ Below X w w' := by
  have := reat_any t ht hl h
  unfold behP at this
  rw [hp] at this
  exact this
theorem reat_yes (t : B) (ht : t.length ≤ 2) (hl : l.length ≤ 2147483648) (hK : skipB r = t ++ q) (h : Rf w X l vv r false m) :
    Calls Tryd.prog 29 #[.pointer (some ⟨X, 0, none⟩), .string (tx t)] w fun e w' => e = .returned (.bool true) ∧ Rf w' X l vv q false m ∧ Below X w w' := by
  have hp : preB false t r = true := by
    unfold preB
    rw [hK, Bool.not_false, Bool.true_and, List.isPrefixOf_iff_prefix]
    exact List.prefix_append _ _
  have := reat_any t ht hl h
  unfold behP at this
  rw [hp, if_pos rfl, hK, List.drop_left] at this
  exact this
theorem rf_form {u : Bool} (h : Rf w X l vv r f m) : Rf (w.setCell ⟨X, 3, none⟩ (.bool u)) X l vv r u m := by
  obtain ⟨i, hB, hd, hi⟩ := h
  exact ⟨i, rf_set3 hB _, hd, hi⟩
theorem Rf.form (h : Rf w X l vv r f m) : w.cell? ⟨X, 3, none⟩ = some (.bool f) ∧ w.frozen? ⟨X, 3, none⟩ = false := by
  obtain ⟨i, hB, -⟩ := h
  obtain ⟨-, -, -, c3, -, hfz⟩ := rf_cell hB
  exact ⟨c3, hfz 3⟩
/-- unary, where less than n is left. -/
def UAt (vs : Vars) (l : B) (vv : Value) (X n : Nat) : Prop := ∀ (w : World) (r : B) (f m : Bool), r.length < n → Env w X vv vs → Rf w X l vv r f m →
  Calls Tryd.prog 64 #[.pointer (some ⟨X, 0, none⟩)] w fun e w' => Res w X l vv r f (UOk vs r m) (UNo vs r m) e w'
def EAt (vs : Vars) (l : B) (vv : Value) (X n : Nat) : Prop := ∀ (w : World) (r : B) (f m : Bool), r.length < n → Env w X vv vs → Rf w X l vv r f m →
  Calls Tryd.prog 16 #[.pointer (some ⟨X, 0, none⟩)] w fun e w' => Res w X l vv r f (EOk vs r m) (ENo vs r m) e w'
theorem tx45 : tx [45] = ⟨#[45]⟩ := rfl
theorem tx33 : tx [33] = ⟨#[33]⟩ := rfl
theorem tx40 : tx [40] = ⟨#[40]⟩ := rfl
theorem tx41 : tx [41] = ⟨#[41]⟩ := rfl
set_option maxRecDepth 100000 in
theorem unary_neg (hU : UAt vs l vv X n) (hl : l.length ≤ 2147483648) (hn : r.length < n + 1) (he : Env w X vv vs) (h : Rf w X l vv r false m) (hK : skipB r = 45 :: q) :
    Calls Tryd.prog 64 #[.pointer (some ⟨X, 0, none⟩)] w fun e w' => Res w X l vv r false (UOk vs r m) (UNo vs r m) e w' := by
  have h1 := reat_yes (q := q) [45] (by decide) hl hK h
  have hq : q.length < n := by
    have := skip_len r
    rw [hK] at this
    simp at this; omega
  rw [tx45] at h1
  have H1 := Lib.hid h1
  have HU := Lib.hid (fun (W : World) (hW : Below X w W) (hr : Rf W X l vv q false m) => hU W q false m hq (he.step hW) hr)
  have HK := Lib.hid hK
  have HL := Lib.hid (show q.length ≤ r.length by have := skip_len r; rw [hK] at this; simp at this; omega)
  clear h1 hU hl hn he h hK hq
  go_enter Tryd.func64, Tryd.ntmps64
  go_wp2_with (first
    | (go_at_call 29; (with_reducible refine H1.out.mono ?_); rintro e w1 ⟨rfl, hq1, hb1⟩; have HQ1 := Lib.hid hq1; have HB1 := Lib.hid hb1; clear hq1 hb1)
    | (go_at_call 64; (with_reducible refine (HU.out _ HB1.out HQ1.out).mono ?_); rintro e w2 ⟨v, r', f', m', rfl, hI, hle, hq2, hb2, hno, hok⟩; have HR := Lib.hid (And.intro hI (And.intro hle (And.intro hno hok))); have HQ2 := Lib.hid hq2; have HB2 := Lib.hid (HB1.out.trans hb2); clear hI hle hq2 hb2 hno hok)
    | (go_at_call 50; (with_reducible refine (rsub_any 0 v zero_I HR.out.1 HQ2.out).mono ?_); rintro e w3 ⟨rfl, hq3, hb3⟩; have HQ3 := Lib.hid hq3; have HB3 := Lib.hid (HB2.out.trans hb3); clear hq3 hb3))
  go_ret
  exact ⟨wr (0 - v), r', f', _, ret_int (by rw [Int.zero_sub]), wr_I _, Nat.le_trans HR.out.2.1 HL.out, HQ3.out, HB3.out, fun hf _ => neg_no HK.out (HR.out.2.2.1 hf (by simp)), fun hf => ⟨rfl, neg_ok HK.out (HR.out.2.2.2 hf).2⟩⟩
set_option maxRecDepth 100000 in
theorem unary_not (hU : UAt vs l vv X n) (hl : l.length ≤ 2147483648) (hn : r.length < n + 1) (he : Env w X vv vs) (h : Rf w X l vv r false m) (hK : skipB r = 33 :: q) :
    Calls Tryd.prog 64 #[.pointer (some ⟨X, 0, none⟩)] w fun e w' => Res w X l vv r false (UOk vs r m) (UNo vs r m) e w' := by
  have h1 := reat_no [45] (by decide) hl (by unfold preB; rw [hK]; rfl) h
  have h2 := fun (W : World) (hr : Rf W X l vv (skipB r) false m) => reat_yes (q := q) [33] (by decide) hl (by rw [skip_skip, hK]; rfl) hr
  rw [hK] at h2
  have hq : q.length < n := by
    have := skip_len r
    rw [hK] at this
    simp at this; omega
  rw [hK, tx45] at h1
  rw [tx33] at h2
  have H1 := Lib.hid h1
  have H2 := Lib.hid h2
  have HU := Lib.hid (fun (W : World) (hW : Below X w W) (hr : Rf W X l vv q false m) => hU W q false m hq (he.step hW) hr)
  have HK := Lib.hid hK
  have HL := Lib.hid (show q.length ≤ r.length by have := skip_len r; rw [hK] at this; simp at this; omega)
  have HY := Lib.hid (fun (b : Bool) (W : World) => ryes_any b W)
  clear h1 h2 hU hl hn he h hK hq
  go_enter Tryd.func64, Tryd.ntmps64
  go_wp2_with (first
    | (go_at_call 29; (with_reducible refine H1.out.mono ?_); rintro e w1 ⟨rfl, hq1, hb1⟩; have HQ1 := Lib.hid hq1; have HB1 := Lib.hid hb1; clear hq1 hb1)
    | (go_at_call 29; (with_reducible refine (H2.out _ HQ1.out).mono ?_); rintro e w1 ⟨rfl, hq2, hb2⟩; have HQ2 := Lib.hid hq2; have HB2 := Lib.hid (HB1.out.trans hb2); clear hq2 hb2)
    | (go_at_call 64; (with_reducible refine (HU.out _ HB2.out HQ2.out).mono ?_); rintro e w2 ⟨v, r', f', m', rfl, hI, hle, hq3, hb3, hno, hok⟩; have HR := Lib.hid (And.intro hI (And.intro hle (And.intro hno hok))); have HQ3 := Lib.hid hq3; have HB3 := Lib.hid (HB2.out.trans hb3); clear hI hle hq3 hb3 hno hok)
    | (go_at_call 30; (with_reducible refine (HY.out _ _).mono ?_); rintro e w3 ⟨rfl, rfl⟩))
  go_ret
  refine ⟨truV (decide (v = 0)), r', f', m', ?_, truV_I _, Nat.le_trans HR.out.2.1 HL.out, HQ3.out, HB3.out, fun hf _ => not_no HK.out (HR.out.2.2.1 hf (by simp)), fun hf => ⟨rfl, not_ok HK.out (head_skip ((HR.out.2.2.2 hf).2.2.1)) (HR.out.2.2.2 hf).2⟩⟩
  exact ret_int (by congr 1)
set_option maxRecDepth 100000 in
theorem unary_open (hE : EAt vs l vv X n) (hl : l.length ≤ 2147483648) (hn : r.length < n + 1) (he : Env w X vv vs) (h : Rf w X l vv r false m) (hK : skipB r = 40 :: q) :
    Calls Tryd.prog 64 #[.pointer (some ⟨X, 0, none⟩)] w fun e w' => Res w X l vv r false (UOk vs r m) (UNo vs r m) e w' := by
  have h1 := reat_no [45] (by decide) hl (by unfold preB; rw [hK]; rfl) h
  have h2 := fun (W : World) (hr : Rf W X l vv (skipB r) false m) => reat_no [33] (by decide) hl (by unfold preB; rw [skip_skip, hK]; rfl) hr
  have h3 := fun (W : World) (hr : Rf W X l vv (skipB r) false m) => reat_yes (q := q) [40] (by decide) hl (by rw [skip_skip, hK]; rfl) hr
  have hq : q.length < n := by
    have := skip_len r
    rw [hK] at this
    simp at this; omega
  simp only [skip_skip] at h2
  rw [tx45] at h1
  rw [tx33] at h2
  rw [tx40] at h3
  obtain ⟨K, hKK⟩ : ∃ K, skipB r = K := ⟨_, rfl⟩
  rw [hKK] at h1 h2 h3
  have H1 := Lib.hid h1
  have H2 := Lib.hid h2
  have H3 := Lib.hid h3
  have HU := Lib.hid (fun (W : World) (hW : Below X w W) (hr : Rf W X l vv q false m) => hE W q false m hq (he.step hW) hr)
  have HK := Lib.hid hK
  have HL := Lib.hid (show q.length ≤ r.length by have := skip_len r; rw [hK] at this; simp at this; omega)
  have HS := Lib.hid hl
  clear h1 h2 h3 hE hl hn he h hK hq hKK
  go_enter Tryd.func64, Tryd.ntmps64
  go_wp2_with (first
    | (go_at_call 29; (with_reducible refine H1.out.mono ?_); rintro e w1 ⟨rfl, hq1, hb1⟩; have HQ1 := Lib.hid hq1; have HB1 := Lib.hid hb1; clear hq1 hb1)
    | (go_at_call 29; (with_reducible refine (H2.out _ HQ1.out).mono ?_); rintro e w1 ⟨rfl, hq2, hb2⟩; have HQ2 := Lib.hid hq2; have HB2 := Lib.hid (HB1.out.trans hb2); clear hq2 hb2)
    | (go_at_call 29; (with_reducible refine (H3.out _ HQ2.out).mono ?_); rintro e w1 ⟨rfl, hq3, hb3⟩; have HQ3 := Lib.hid hq3; have HB3 := Lib.hid (HB2.out.trans hb3); clear hq3 hb3)
    | (go_at_call 16; (with_reducible refine (HU.out _ HB3.out HQ3.out).mono ?_); rintro e w2 ⟨v, r1, f1, m1, rfl, hI, hle, hq4, hb4, hno, hok⟩; have HR := Lib.hid (And.intro hI (And.intro hle (And.intro hno hok))); have HQ4 := Lib.hid hq4; have HB4 := Lib.hid (HB3.out.trans hb4); clear hI hle hq4 hb4 hno hok))
  cases f1 with
  | true =>
    have h5 := reat_no [41] (by decide) HS.out (show preB true [41] r1 = false from rfl) HQ4.out
    rw [tx41] at h5
    have H5 := Lib.hid h5
    clear h5
    go_wp2_with (go_at_call 29; (with_reducible refine H5.out.mono ?_); rintro e w5 ⟨rfl, hq5, hb5⟩; obtain ⟨c3, f3⟩ := hq5.form; have HQ5 := Lib.hid hq5; have HB5 := Lib.hid (HB4.out.trans hb5); clear hq5 hb5)
    go_ret
    exact ⟨v, skipB r1, true, m1, rfl, HR.out.1, Nat.le_trans (skip_len _) (Nat.le_trans HR.out.2.1 HL.out), rf_form HQ5.out, rf_below HB5.out, fun _ _ => open_no HK.out (HR.out.2.2.1 (by simp) (by simp)), fun hf => by cases hf⟩
  | false =>
    have hok := (HR.out.2.2.2 rfl).2
    have HO := Lib.hid hok
    clear hok
    cases hp : [41].isPrefixOf (skipB r1) with
    | true =>
      obtain ⟨r2, hr2⟩ : ∃ r2, skipB r1 = 41 :: r2 := by
        obtain ⟨r2, hr2⟩ := List.isPrefixOf_iff_prefix.1 hp
        exact ⟨r2, hr2.symm⟩
      have h5 := reat_yes (q := r2) [41] (by decide) HS.out hr2 HQ4.out
      rw [tx41] at h5
      have H5 := Lib.hid h5
      have HR2 := Lib.hid hr2
      clear h5 hr2 hp
      go_wp2_with (go_at_call 29; (with_reducible refine H5.out.mono ?_); rintro e w5 ⟨rfl, hq5, hb5⟩; obtain ⟨c3, f3⟩ := hq5.form; have HQ5 := Lib.hid hq5; have HB5 := Lib.hid (HB4.out.trans hb5); clear hq5 hb5)
      go_ret
      exact ⟨v, r2, false, m1, rfl, HR.out.1, Nat.le_trans (by have := skip_len r1; rw [HR2.out] at this; simp at this; omega) (Nat.le_trans HR.out.2.1 HL.out), rf_form HQ5.out, rf_below HB5.out, fun hf => by (cases hf), fun _ => ⟨rfl, open_ok HK.out HO.out HR2.out⟩⟩
    | false =>
      have h5 := reat_no [41] (by decide) HS.out (show preB false [41] r1 = false by unfold preB; rw [hp]; rfl) HQ4.out
      rw [tx41] at h5
      have H5 := Lib.hid h5
      have HP := Lib.hid hp
      clear h5 hp
      go_wp2_with (go_at_call 29; (with_reducible refine H5.out.mono ?_); rintro e w5 ⟨rfl, hq5, hb5⟩; obtain ⟨c3, f3⟩ := hq5.form; have HQ5 := Lib.hid hq5; have HB5 := Lib.hid (HB4.out.trans hb5); clear hq5 hb5)
      go_ret
      exact ⟨v, skipB r1, true, m1, rfl, HR.out.1, Nat.le_trans (skip_len _) (Nat.le_trans HR.out.2.1 HL.out), rf_form HQ5.out, rf_below HB5.out, fun _ _ => open_odd HK.out HO.out HP.out, fun hf => by cases hf⟩
end

section
variable {w : World} {X : Nat} {l r q : B} {vv : Value} {f m : Bool} {vs : Vars} {n : Nat}
theorem drop_while_skip {p : UInt8 → Bool} {a : B} : (a.dropWhile p).length ≤ a.length := drop_le _ _
theorem tok_cut {l K D : B} {i j : Nat} (hi : l.drop i = K) (hj : l.drop j = D) (hil : i ≤ l.length) (hjl : j ≤ l.length) (h : D.length ≤ K.length) : i ≤ j ∧ (tx l).extract i j = tx (K.take (K.length - D.length)) := by
  have h1 : K.length = l.length - i := by rw [← hi, List.length_drop]
  have h2 : D.length = l.length - j := by rw [← hj, List.length_drop]
  have h3 : i ≤ j := by omega
  refine ⟨h3, ?_⟩
  have := take_tx l K i (K.length - D.length) hi
  rwa [show i + (K.length - D.length) = j by omega] at this
set_option maxRecDepth 100000 in
set_option maxHeartbeats 2000000 in
theorem unary_dig {c : UInt8} (hl : l.length ≤ 2147483648) (h : Rf w X l vv r false m) (hK : skipB r = c :: q) (hc : digC c = true) :
    Calls Tryd.prog 64 #[.pointer (some ⟨X, 0, none⟩)] w fun e w' => Res w X l vv r false (UOk vs r m) (UNo vs r m) e w' := by
  have hcn : 48 ≤ c.toNat ∧ c.toNat ≤ 57 := by simpa [digC] using hc
  have p1 : ∀ (t : UInt8) (x : B), skipB x = c :: q → (48 ≤ t.toNat → t.toNat ≤ 57 → False) → preB false [t] x = false := by
    intro t x hx ht
    unfold preB
    rw [hx]
    have h9 : t ≠ c := by rintro rfl; exact ht hcn.1 hcn.2
    have h8 : (t == c) = false := by simpa using h9
    show (!false && (t == c && _)) = false
    rw [h8]; rfl
  have h1 := reat_no [45] (by decide) hl (p1 45 r hK (by decide)) h
  have h2 := fun (W : World) (hr : Rf W X l vv (skipB r) false m) => reat_no [33] (by decide) hl (p1 33 _ (by rw [skip_skip, hK]) (by decide)) hr
  have h3 := fun (W : World) (hr : Rf W X l vv (skipB r) false m) => reat_no [40] (by decide) hl (p1 40 _ (by rw [skip_skip, hK]) (by decide)) hr
  have h4 := fun (W : World) (hr : Rf W X l vv (skipB r) false m) => rskip_any hl hr
  obtain ⟨hD, hU⟩ := dig_ok (vs := vs) (m := m) hK hc
  have hT : tokB r = (skipB r).take ((skipB r).length - (leftB r).length) := rfl
  have hLen := skip_len r
  obtain ⟨T, hTT⟩ : ∃ T, tokB r = T := ⟨_, rfl⟩
  obtain ⟨D, hDD⟩ : ∃ D, leftB r = D := ⟨_, rfl⟩
  have hNx : nextB false (skipB r) = c.toNat := by unfold nextB; rw [skip_skip, hK]; rfl
  simp only [skip_skip, hNx] at h2 h3 h4
  obtain ⟨K, hKK⟩ : ∃ K, skipB r = K := ⟨_, rfl⟩
  rw [hTT, hDD, hKK] at hT
  rw [hDD, hKK] at hD
  rw [hTT, hDD] at hU
  rw [hKK] at h1 h2 h3 h4 hLen
  rw [tx45] at h1
  rw [tx33] at h2
  rw [tx40] at h3
  have hTl : T.length ≤ 4611686018427387904 := by
    have h9 : r.length ≤ l.length := by obtain ⟨i, -, h5, -⟩ := h; rw [← h5, List.length_drop]; omega
    rw [hT, List.length_take]; omega
  have H1 := Lib.hid h1
  have H2 := Lib.hid h2
  have H3 := Lib.hid h3
  have H4 := Lib.hid h4
  have HN := Lib.hid (fun W => rnum_any T hTl W)
  have HI := Lib.hid (num_I T)
  obtain ⟨NV, hNV⟩ : ∃ NV, numM T = NV := ⟨_, rfl⟩
  rw [hNV] at HN hU HI
  obtain ⟨a, ok⟩ := NV
  simp only at HN hU HI
  have HU := Lib.hid hU
  have HT := Lib.hid (And.intro hT (And.intro hD hLen))
  have HS := Lib.hid hl
  obtain ⟨C, hC⟩ : ∃ C : Int, (c.toNat : Int) = C := ⟨_, rfl⟩
  rw [hC] at H4
  have hC1 : 48 ≤ C := by omega
  have hC2 : C ≤ 57 := by omega
  clear h1 h2 h3 h4 hl h hK hKK hT hD hU hLen hTT hDD hTl p1 hc hNx hC hcn hNV
  go_enter Tryd.func64, Tryd.ntmps64
  go_wp2_with (first
    | (go_at_call 29; (with_reducible refine H1.out.mono ?_); rintro e w1 ⟨rfl, hq1, hb1⟩; have HQ1 := Lib.hid hq1; have HB1 := Lib.hid hb1; clear hq1 hb1)
    | (go_at_call 29; (with_reducible refine (H2.out _ HQ1.out).mono ?_); rintro e w2 ⟨rfl, hq2, hb2⟩; have HQ2 := Lib.hid hq2; have HB2 := Lib.hid (HB1.out.trans hb2); clear hq2 hb2)
    | (go_at_call 29; (with_reducible refine (H3.out _ HQ2.out).mono ?_); rintro e w3 ⟨rfl, hq3, hb3⟩; have HQ3 := Lib.hid hq3; have HB3 := Lib.hid (HB2.out.trans hb3); clear hq3 hb3)
    | (go_at_call 17; (with_reducible refine (H4.out _ HQ3.out).mono ?_); rintro e w4 ⟨rfl, hq4, hb4⟩; obtain ⟨i, hB, hd, hi⟩ := hq4; obtain ⟨-, c1, -, -, -, -⟩ := rf_cell hB; have HQ4 := Lib.hid (And.intro hB (And.intro hd hi)); have HB4 := Lib.hid (HB3.out.trans hb4); clear hB hd hi hb4))
  go_loopg [] (K.length) (fun gf wx => Hid (∃ p, Rf wx X l vv p false m ∧ Below X w wx ∧ p.dropWhile digC = D ∧ p.length ≤ gf ∧ p.length ≤ K.length))
  case atStart => exact Lib.hid ⟨K, ⟨i, HQ4.out⟩, HB4.out, HT.out.2.1.symm, Nat.le_refl _, Nat.le_refl _⟩
  case round =>
    obtain ⟨p, hq, hb, hs, hg, hpk⟩ := hrel.out
    clear hrel
    obtain ⟨j, hB, hd, hj⟩ := hq
    have HB := Lib.hid hB
    have HBW := Lib.hid hb
    obtain ⟨c0, c1', -, -, c4, hfz⟩ := rf_cell hB
    have f1 := hfz 1
    have f4 := hfz 4
    have hsz : ((tx l).size : Int) = (l.length : Int) := by rw [tx_size]
    have hSS := HS.out
    clear hfz hB hb
    by_cases hst : ∃ d p', p = d :: p' ∧ digC d = true
    · obtain ⟨d, p', rfl, hdd⟩ := hst
      obtain ⟨g', rfl⟩ : ∃ g', gk = g' + 1 := ⟨gk - 1, by simp at hg; omega⟩
      obtain ⟨hix, hc, hd', hjl⟩ := drop_get hd
      have hxi : ((tx l)[j]'hix).toNat = d.toNat := by rw [hc]
      have hdn : 48 ≤ d.toNat ∧ d.toNat ≤ 57 := by simpa [digC] using hdd
      obtain ⟨z, hz⟩ : ∃ z, d.toNat = z := ⟨_, rfl⟩
      rw [hz] at hxi hdn
      have e9 : IntKind.i64.wrap ((j : Int) + 1) = (j : Int) + 1 := IntWalk.i64_in _ ⟨by omega, by omega⟩
      have hlt : (j : Int) < (l.length : Int) := by omega
      have a1 : decide ((j : Int) < (l.length : Int)) = true := by simp; omega
      have a2 : decide ((48 : Int) ≤ (z : Int)) = true := by simp; omega
      have a3 : decide ((z : Int) ≤ (57 : Int)) = true := by simp; omega
      have HR := Lib.hid (And.intro hd' (And.intro hjl (And.intro (show p'.dropWhile digC = D by rw [← hs, List.dropWhile_cons, if_pos hdd]) (And.intro (show p'.length ≤ g' by simp at hg; omega) (show p'.length ≤ K.length by simp at hpk; omega)))))
      clear hd hj hs hg hpk hc hd' hdd hjl hz hdn hSS
      go_wp2_with fail
      go_quiet (fail)
      go_wp2_with fail
      go_roundg g'
      case rel => exact Lib.hid ⟨p', ⟨j + 1, by rw [show ((j + 1 : Nat) : Int) = (j : Int) + 1 by omega]; exact rf_set1 HB.out _, HR.out.1, HR.out.2.1⟩, rf_below (rf_drewN HBW.out _), HR.out.2.2.1, HR.out.2.2.2.1, HR.out.2.2.2.2⟩
      case measure => omega
    · have hpD : p = D := by
        rw [← hs]
        cases p with
        | nil => rfl
        | cons d p' =>
          rw [List.dropWhile_cons, if_neg]
          intro e
          exact hst ⟨d, p', rfl, e⟩
      subst hpD
      have hcut := tok_cut HQ4.out.2.1 hd HQ4.out.2.2 hj hpk
      rw [← HT.out.1] at hcut
      obtain ⟨hij, hx⟩ := hcut
      have hijI : (i : Int) ≤ (j : Int) := by omega
      have hi0 : (0 : Int) ≤ (i : Int) := by omega
      obtain ⟨LL, hLL⟩ : ∃ L : Int, (l.length : Int) = L := ⟨_, rfl⟩
      rw [hLL] at hsz
      have hjI : (j : Int) ≤ LL := by omega
      have HR := Lib.hid (And.intro hd hj)
      have HP := Lib.hid hpk
      have hthree : (decide ((j : Int) < LL) = false) ∨ (∃ (hix : j < (tx l).size) (z : Nat), ((tx l)[j]'hix).toNat = z ∧ (j : Int) < LL ∧ decide ((j : Int) < LL) = true ∧ decide ((48 : Int) ≤ (z : Int)) = false) ∨ (∃ (hix : j < (tx l).size) (z : Nat), ((tx l)[j]'hix).toNat = z ∧ (j : Int) < LL ∧ decide ((j : Int) < LL) = true ∧ decide ((48 : Int) ≤ (z : Int)) = true ∧ decide ((z : Int) ≤ (57 : Int)) = false) := by
        cases p with
        | nil =>
          have := drop_end hd hj
          left; simp; omega
        | cons d p' =>
          right
          obtain ⟨hix, hc, hd', hjl⟩ := drop_get hd
          have hnd : ¬ (48 ≤ d.toNat ∧ d.toNat ≤ 57) := by
            intro e
            exact hst ⟨d, p', rfl, by simpa [digC] using e⟩
          by_cases h48 : 48 ≤ d.toNat
          · right; exact ⟨hix, d.toNat, by rw [hc], by omega, by simp; omega, by simp; omega, by simp; omega⟩
          · left; exact ⟨hix, d.toNat, by rw [hc], by omega, by simp; omega, by simp; omega⟩
      clear hd hj hs hg hpk hst hij hSS hLL
      rcases hthree with a1 | ⟨hix, z, hz, hlt, a1, a2⟩ | ⟨hix, z, hz, hlt, a1, a2, a3⟩
      all_goals
        go_wp2_with fail
        go_quiet (fail)
        go_wp2_with fail
        go_quiet ((go_at_call 12; refine (HN.out _).mono ?_; rintro e w2 ⟨rfl, rfl⟩; exact ⟨rfl, _, rfl⟩))
        cases m <;> cases ok
        all_goals
          go_wp2_with fail
          go_ret
          exact ⟨a, p, false, _, rfl, HI.out, Nat.le_trans HP.out HT.out.2.2, ⟨j, rf_set4 HB.out _, HR.out⟩, rf_below (by (repeat refine rf_drewN ?_ _); exact HBW.out), fun hf => by (cases hf), fun _ => ⟨rfl, HU.out⟩⟩
end
end Go.Proofs.YtlgbfhjbfolibaaDoor
