/-
  Proved: texts joined: Proved: contracts of a parser's text, is, takes, need, isWord, word, isName, name. Conditions: the reader lies in memory.
  Proved: contracts of a parser's lines, sep, ends, isRedir, redir, begin, isFun. Conditions: the reader lies in memory.
  Proved: contracts of a parser's ends, redir, isFun. Conditions: the reader lies in memory.
  Proved: the contract of a parser's isFun. Conditions: the reader lies in memory.
-/
import Derived.Test.YtakceggnadagmaaGreatDoorPj07
namespace Go.Proofs.YtakceggnadagmaaGreatDoor
open Go Go.RowKit GlyphMath LexMath TreeMath ParseMath

theorem below_new (w : World) (o : Obj) : Below w.heap.size w (w.alloc o) := (Below.refl _ w).alloc (Nat.le_refl _) _
theorem text_any {w0 w : World} (hb : Below w0.heap.size w0 w) (t : Tk) (p : Option Addr) (k : Nat) (hu : PsAt w0 (.slice p t.word.length k) t.word) :
    Calls Tryz.prog 104 #[tkV t p k] w fun e w' => e = .returned (.string (T (textK t))) ∧ Below w.heap.size w w' := by
  have HB := Lib.hid (below_new w)
  have HP := Lib.hid (fun o => plain_any t.word _ _ (hu.stays (hb.trans ((below_new w o).mono hb.size))))
  unfold wordV at HP
  unfold tkV
  obtain ⟨kd, hkd⟩ : ∃ x, t.kind = x := ⟨_, rfl⟩
  have HT := Lib.hid (show textK t = if kd = 1 then (plainT t.word).getD [] else t.text from by rw [← hkd]; rfl)
  obtain ⟨tx, htx⟩ : ∃ x, T t.text = x := ⟨_, rfl⟩
  obtain ⟨wl, hwl⟩ : ∃ x, t.word.length = x := ⟨_, rfl⟩
  obtain ⟨at_, hat⟩ : ∃ x : Int, (t.at_ : Int) = x := ⟨_, rfl⟩
  have HTX := Lib.hid htx
  rw [hwl] at HP
  rw [hkd, htx, hwl, hat]
  obtain ⟨R, hR⟩ : ∃ R, T (textK t) = R := ⟨_, rfl⟩
  have HR := Lib.hid hR
  rw [hR]
  clear hu hb hkd htx hwl hat hR
  by_cases h1 : kd = 1
  · subst h1
    have HE := Lib.hid (show T ((plainT t.word).getD []) = R by rw [← HR.out, HT.out, if_pos rfl])
    rw [HE.out] at HP
    go_enter Tryz.func104, Tryz.ntmps104
    go_wp2_with (go_at_call 131; refine (HP.out _).mono ?_; rintro e w1 ⟨rfl, hb1⟩; have HB1 := Lib.hid ((HB.out _).trans (hb1.mono (HB.out _).size)); clear hb1)
    go_ret
    exact ⟨rfl, HB1.out⟩
  · have hk1 : (kd == 1) = false := by simpa using h1
    have HE := Lib.hid (show tx = R by rw [← HR.out, HT.out, if_neg h1, HTX.out])
    clear h1
    go_enter Tryz.func104, Tryz.ntmps104
    go_wp2_with fail
    go_ret
    exact ⟨by rw [HE.out]; rfl, HB.out _⟩

theorem pis_any {w0 w : World} {X : Nat} {S : PS} (h : Pr w0 w X S) (s : List UInt8) :
    Calls Tryz.prog 129 #[.pointer (some ⟨X, 0, none⟩), .string (T s)] w fun e w' => e = .returned (.bool (S.is s)) ∧ Below w.heap.size w w' := by
  have HN := Lib.hid (pnext_any h)
  have HP := Lib.hid h.below
  have HI := Lib.hid (show S.is s = (textK S.hd == s) from rfl)
  clear h
  obtain ⟨B, hB⟩ : ∃ B, S.is s = B := ⟨_, rfl⟩
  rw [hB] at HI ⊢
  clear hB
  obtain ⟨t, ht⟩ : ∃ t, S.hd = t := ⟨_, rfl⟩
  rw [ht] at HN HI
  clear ht
  obtain ⟨R, hR⟩ : ∃ R, T (textK t) = R := ⟨_, rfl⟩
  obtain ⟨s2, hs2⟩ : ∃ R, T s = R := ⟨_, rfl⟩
  have HE := Lib.hid (And.intro hR hs2)
  rw [hs2]
  clear hR hs2
  go_enter Tryz.func129, Tryz.ntmps129
  go_wp2_with (first
    | (go_at_call 45; refine HN.out.mono ?_; rintro en w1 ⟨p, k, rfl, hu, hb1⟩; have HB1 := Lib.hid hb1; have HC := Lib.hid (text_any (HP.out.trans (hb1.mono HP.out.size)) t p k hu); clear hu hb1)
    | (go_at_call 104; refine HC.out.mono ?_; rintro en w2 ⟨rfl, hb2⟩; have HB2 := Lib.hid hb2; clear hb2; rw [HE.out.1]))
  go_ret
  refine ⟨ret_bool ?_, HB1.out.trans (HB2.out.mono HB1.out.size)⟩
  rw [HI.out, ← HE.out.1, ← HE.out.2, Lib.toList_data, Lib.toList_data]

theorem ptakes_any {w0 w : World} {X : Nat} {S : PS} (h : Pr w0 w X S) (s : List UInt8) :
    Calls Tryz.prog 102 #[.pointer (some ⟨X, 0, none⟩), .string (T s)] w fun e w' => e = .returned (.bool (S.takes s).1) ∧ PStep w0 w w' X (S.takes s).2 := by
  have HI := Lib.hid (pis_any h s)
  have HP := Lib.hid h
  clear h
  obtain ⟨s2, hs2⟩ : ∃ R, T s = R := ⟨_, rfl⟩
  rw [hs2] at HI ⊢
  clear hs2
  unfold PS.takes
  cases hi : S.is s with
  | true =>
    rw [hi] at HI
    clear hi
    go_enter Tryz.func102, Tryz.ntmps102
    go_wp2_with (first
      | (go_at_call 129; refine HI.out.mono ?_; rintro en w1 ⟨rfl, hb1⟩; have HB1 := Lib.hid hb1; clear hb1)
      | (go_at_call 105; refine (ptake_any (HP.out.new HB1.out)).mono ?_; rintro en w2 ⟨p, k, rfl, -, hs⟩; have HS := Lib.hid hs; clear hs))
    go_ret
    exact ⟨rfl, HS.out.1, (Kept.of_below HB1.out).on HS.out.2⟩
  | false =>
    rw [hi] at HI
    clear hi
    go_enter Tryz.func102, Tryz.ntmps102
    go_wp2_with (go_at_call 129; refine HI.out.mono ?_; rintro en w1 ⟨rfl, hb1⟩; have HB1 := Lib.hid hb1; clear hb1)
    go_ret
    exact ⟨rfl, HP.out.new HB1.out, Kept.of_below HB1.out⟩

theorem pneed_any {w0 w : World} {X : Nat} {S : PS} (h : Pr w0 w X S) (s : List UInt8) :
    Calls Tryz.prog 182 #[.pointer (some ⟨X, 0, none⟩), .string (T s)] w fun e w' => e = .returned (.tuple #[]) ∧ PStep w0 w w' X (S.need s) := by
  have HI := Lib.hid (ptakes_any h s)
  clear h
  obtain ⟨s2, hs2⟩ : ∃ R, T s = R := ⟨_, rfl⟩
  rw [hs2] at HI ⊢
  clear hs2
  unfold PS.takes at HI
  unfold PS.need
  cases hi : S.is s with
  | true =>
    rw [hi, if_pos rfl] at HI
    clear hi
    go_enter Tryz.func182, Tryz.ntmps182
    go_wp2_with (go_at_call 102; refine HI.out.mono ?_; rintro en w1 ⟨rfl, hs⟩; have HS := Lib.hid hs; clear hs)
    go_end0
    exact ⟨rfl, HS.out⟩
  | false =>
    rw [hi, if_neg (by decide)] at HI
    clear hi
    go_enter Tryz.func182, Tryz.ntmps182
    go_wp2_with (first
      | (go_at_call 102; refine HI.out.mono ?_; rintro en w1 ⟨rfl, hs⟩; have HS := Lib.hid hs; clear hs)
      | (go_at_call 46; refine (pfail_any HS.out.1 2 (by decide)).mono ?_; rintro en w2 ⟨rfl, hs2⟩; have HS2 := Lib.hid hs2; clear hs2))
    go_end0
    exact ⟨rfl, HS.out.trans HS2.out⟩

theorem pisWord_any {w0 w : World} {X : Nat} {S : PS} (h : Pr w0 w X S) :
    Calls Tryz.prog 189 #[.pointer (some ⟨X, 0, none⟩)] w fun e w' => e = .returned (.bool S.isWord) ∧ Below w.heap.size w w' := by
  have HN := Lib.hid (pnext_any h)
  have HI := Lib.hid (show S.isWord = (S.hd.kind == 1) from rfl)
  clear h
  obtain ⟨B, hB⟩ : ∃ B, S.isWord = B := ⟨_, rfl⟩
  rw [hB] at HI ⊢
  clear hB
  unfold tkV at HN
  obtain ⟨t, ht⟩ : ∃ t, S.hd = t := ⟨_, rfl⟩
  rw [ht] at HN HI
  obtain ⟨kd, hkd⟩ : ∃ x, t.kind = x := ⟨_, rfl⟩
  obtain ⟨tx, htx⟩ : ∃ x, T t.text = x := ⟨_, rfl⟩
  obtain ⟨wl, hwl⟩ : ∃ x, t.word.length = x := ⟨_, rfl⟩
  obtain ⟨at_, hat⟩ : ∃ x : Int, (t.at_ : Int) = x := ⟨_, rfl⟩
  rw [hkd] at HI
  simp only [hkd, htx, hwl, hat] at HN
  clear ht hkd htx hwl hat
  go_enter Tryz.func189, Tryz.ntmps189
  go_wp2_with (go_at_call 45; refine HN.out.mono ?_; rintro en w1 ⟨p, k, rfl, -, hb1⟩; have HB1 := Lib.hid hb1; clear hb1; have qf := tok_f0 kd at_ tx p wl k)
  go_ret
  exact ⟨ret_bool HI.out.symm, HB1.out⟩

theorem pisName_any {w0 w : World} {X : Nat} {S : PS} (h : Pr w0 w X S) :
    Calls Tryz.prog 179 #[.pointer (some ⟨X, 0, none⟩)] w fun e w' => e = .returned (.bool S.isName) ∧ Below w.heap.size w w' := by
  have HN := Lib.hid (pnext_any h)
  have HP := Lib.hid h.below
  have HI := Lib.hid (show ∀ W, Calls Tryz.prog 178 #[.string (T (textK S.hd))] W fun e w' => e = .returned (.bool S.isName) ∧ _ from fun W => name_any (T (textK S.hd)) W)
  clear h
  obtain ⟨B, hB⟩ : ∃ B, S.isName = B := ⟨_, rfl⟩
  rw [hB] at HI ⊢
  clear hB
  obtain ⟨t, ht⟩ : ∃ t, S.hd = t := ⟨_, rfl⟩
  rw [ht] at HN HI
  clear ht
  go_enter Tryz.func179, Tryz.ntmps179
  go_wp2_with (first
    | (go_at_call 45; refine HN.out.mono ?_; rintro en w1 ⟨p, k, rfl, hu, hb1⟩; have HB1 := Lib.hid hb1; have HC := Lib.hid (text_any (HP.out.trans (hb1.mono HP.out.size)) t p k hu); clear hu hb1)
    | (go_at_call 104; refine HC.out.mono ?_; rintro en w2 ⟨rfl, hb2⟩; have HB2 := Lib.hid hb2; clear hb2)
    | (go_at_call 178; refine (HI.out _).mono ?_; rintro en w3 ⟨rfl, hb3⟩; have HB3 := Lib.hid hb3; clear hb3))
  go_ret
  exact ⟨rfl, (HB1.out.trans (HB2.out.mono HB1.out.size)).trans (HB3.out.mono (Nat.le_trans HB1.out.size HB2.out.size))⟩

theorem word_info : (Tryz.prog.info? 70).map (·.size) = some 1 := by kernel_rfl
theorem ret_word {fn : Func} {p : Tmp} (hf : fn.results = #[.cell p 70]) {tmps : Array Value} {k : Nat} {a : Value} {w : World} {t : TypeId} {fr : Nat × Nat} (h : w.heap[k]? = some (.cells #[a] t fr)) (h2 : tmps.getD p undef = .pointer (some ⟨k, 0, none⟩)) :
    (results fn tmps).run Tryz.prog w = .ok (.agg #[a]) w := results_cell_row hf tmps w k t #[a] fr _ h2 h Tryz.underlying70 rfl word_info
theorem pword_any {w0 w : World} {X : Nat} {S : PS} (h : Pr w0 w X S) :
    Calls Tryz.prog 191 #[.pointer (some ⟨X, 0, none⟩)] w fun e w' => ∃ p k, e = .returned (.agg #[.slice p S.word.1.length k]) ∧ PsAt w0 (.slice p S.word.1.length k) S.word.1 ∧ PStep w0 w w' X S.word.2 := by
  have h1 : ∀ o, Pr w0 (w.alloc o) X S := fun o => h.new (below_new w o)
  have HI := Lib.hid (fun o => pisWord_any (h1 o))
  have HP := Lib.hid h1
  have HX := Lib.hid h.base
  have HB := Lib.hid (below_new w)
  have HZ := Lib.hid (heap_alloc_new w)
  have HSZ := Lib.hid (show ∀ o, w.heap.size < (w.alloc o).heap.size from fun o => by simp)
  clear h h1
  unfold PS.word
  obtain ⟨S1, hS1⟩ : ∃ S1, S.want S.isWord = S1 := ⟨_, rfl⟩
  have HS1 := Lib.hid hS1
  rw [hS1]
  clear hS1
  obtain ⟨t, ht⟩ : ∃ t, S1.hd = t := ⟨_, rfl⟩
  have HT := Lib.hid ht
  rw [ht]
  clear ht
  obtain ⟨kd, hkd⟩ : ∃ x, t.kind = x := ⟨_, rfl⟩
  obtain ⟨tx, htx⟩ : ∃ x, T t.text = x := ⟨_, rfl⟩
  obtain ⟨wl, hwl⟩ : ∃ x, t.word.length = x := ⟨_, rfl⟩
  obtain ⟨at_, hat⟩ : ∃ x : Int, (t.at_ : Int) = x := ⟨_, rfl⟩
  rw [hwl]
  have HTK := Lib.hid (show ∀ W, Pr w0 W X S1 → Calls Tryz.prog 105 #[.pointer (some ⟨X, 0, none⟩)] W fun e w' => ∃ p k, e = .returned (.agg #[.int .i64 kd, .string tx, .slice p wl k, .int .i64 at_]) ∧ PsAt w0 (.slice p wl k) t.word ∧ PStep w0 W w' X S1.take from fun W hW => by
    have := ptake_any hW
    unfold tkV at this
    rw [HT.out] at this
    simp only [hkd, htx, hwl, hat] at this
    exact this)
  clear hkd htx hwl hat
  have fin : ∀ (W W2 : World), Below w.heap.size w W → PStep w0 W W2 X S1.take → W.heap[w.heap.size]? = some (.cells #[.slice none 0 0] 70) → w.heap.size < W.heap.size →
      W2.heap[w.heap.size]? = some (.cells #[.slice none 0 0] 70) ∧ ∀ u, PStep w0 w (W2.setCell ⟨w.heap.size, 0, none⟩ u) X S1.take := fun W W2 hb hs hz hsz => by
    have hx := HX.out
    refine ⟨hs.2.heap hz (by omega), fun u => ⟨hs.1.kept (D := fun i => i = w.heap.size) ((Kept.refl (fun i => i = w.heap.size) W2).setCell (p := ⟨w.heap.size, 0, none⟩) (.inl rfl) _) (by omega) (fun i hi => by omega), ?_⟩⟩
    exact ((Kept.of_below (D := fun i => i = X) hb).on hs.2).setCell (p := ⟨w.heap.size, 0, none⟩) (.inr (Nat.le_refl _)) _
  have HF := Lib.hid fin
  clear fin
  cases hi : S.isWord with
  | true =>
    rw [hi] at HI HS1
    have HS := Lib.hid (show S = S1 from by have := HS1.out; unfold PS.want at this; rwa [if_pos rfl] at this)
    clear hi
    go_enter Tryz.func191, Tryz.ntmps191
    go_wp2_with (first
      | (go_at_call 189; refine (HI.out _).mono ?_; rintro en w1 ⟨rfl, hb1⟩; have HB1 := Lib.hid (And.intro ((HB.out _).trans (hb1.mono (HB.out _).size)) (And.intro ((HP.out _).new hb1) (And.intro ((hb1.block w.heap.size (HSZ.out _)).trans (HZ.out _)) (Nat.lt_of_lt_of_le (HSZ.out _) hb1.size)))); clear hb1; rw [HS.out] at HB1)
      | (go_at_call 105; refine (HTK.out _ HB1.out.2.1).mono ?_; rintro en w2 ⟨p, k, rfl, hu, hs⟩; have qf := tok_f2 kd at_ tx p wl k; have hz := (HF.out w1 w2 HB1.out.1 hs HB1.out.2.2.1 HB1.out.2.2.2); have c0 := cell_plain hz.1 0; have f0 := frozen_plain hz.1 0; have HU := Lib.hid (And.intro hu hz); clear hu hs hz))
    (try simp only [Exit.inBlock, Exit.then])
    refine bodyPost_ret (ret_word rfl (heap_set_one HU.out.2.1 _) rfl) rfl ?_
    exact ⟨p, k, rfl, HU.out.1, HU.out.2.2 _⟩
  | false =>
    rw [hi] at HI HS1
    have HS := Lib.hid (show S.fail 2 = S1 from by have := HS1.out; unfold PS.want at this; rwa [if_neg (by decide)] at this)
    clear hi
    go_enter Tryz.func191, Tryz.ntmps191
    go_wp2_with (first
      | (go_at_call 189; refine (HI.out _).mono ?_; rintro en w1 ⟨rfl, hb1⟩; have HB1 := Lib.hid (And.intro ((HB.out _).trans (hb1.mono (HB.out _).size)) (And.intro ((HP.out _).new hb1) (And.intro ((hb1.block w.heap.size (HSZ.out _)).trans (HZ.out _)) (Nat.lt_of_lt_of_le (HSZ.out _) hb1.size)))); clear hb1)
      | (go_at_call 46; refine (pfail_any HB1.out.2.1 2 (by decide)).mono ?_; rintro en w3 ⟨rfl, hs⟩; rw [HS.out] at hs; have HS3 := Lib.hid hs; clear hs)
      | (go_at_call 105; refine (HTK.out _ HS3.out.1).mono ?_; rintro en w2 ⟨p, k, rfl, hu, hs⟩; have qf := tok_f2 kd at_ tx p wl k; have hz := (HF.out w1 w2 HB1.out.1 (HS3.out.trans hs) HB1.out.2.2.1 HB1.out.2.2.2); have c0 := cell_plain hz.1 0; have f0 := frozen_plain hz.1 0; have HU := Lib.hid (And.intro hu hz); clear hu hs hz))
    (try simp only [Exit.inBlock, Exit.then])
    refine bodyPost_ret (ret_word rfl (heap_set_one HU.out.2.1 _) rfl) rfl ?_
    exact ⟨p, k, rfl, HU.out.1, HU.out.2.2 _⟩

theorem pname_any {w0 w : World} {X : Nat} {S : PS} (h : Pr w0 w X S) :
    Calls Tryz.prog 181 #[.pointer (some ⟨X, 0, none⟩)] w fun e w' => e = .returned (.string (T S.name.1)) ∧ PStep w0 w w' X S.name.2 := by
  have HI := Lib.hid (pisName_any h)
  have HP := Lib.hid h
  clear h
  unfold PS.name
  obtain ⟨S1, hS1⟩ : ∃ S1, S.want S.isName = S1 := ⟨_, rfl⟩
  have HS1 := Lib.hid hS1
  rw [hS1]
  clear hS1
  cases hi : S.isName with
  | true =>
    rw [hi] at HI HS1
    have HS := Lib.hid (show S = S1 from by have := HS1.out; unfold PS.want at this; rwa [if_pos rfl] at this)
    clear hi
    go_enter Tryz.func181, Tryz.ntmps181
    go_wp2_with (first
      | (go_at_call 179; refine HI.out.mono ?_; rintro en w1 ⟨rfl, hb1⟩; have HB1 := Lib.hid (And.intro hb1 (HP.out.new hb1)); clear hb1; rw [HS.out] at HB1)
      | (go_at_call 105; refine (ptake_any HB1.out.2).mono ?_; rintro en w2 ⟨p, k, rfl, hu, hs⟩; have HC := Lib.hid (text_any hs.1.below _ p k hu); have HS2 := Lib.hid hs; clear hu hs)
      | (go_at_call 104; refine HC.out.mono ?_; rintro en w3 ⟨rfl, hb3⟩; have HB3 := Lib.hid hb3; clear hb3))
    go_ret
    exact ⟨rfl, PStep.ahead HB1.out.1 (HS2.out.new HB3.out)⟩
  | false =>
    rw [hi] at HI HS1
    have HS := Lib.hid (show S.fail 2 = S1 from by have := HS1.out; unfold PS.want at this; rwa [if_neg (by decide)] at this)
    clear hi
    go_enter Tryz.func181, Tryz.ntmps181
    go_wp2_with (first
      | (go_at_call 179; refine HI.out.mono ?_; rintro en w1 ⟨rfl, hb1⟩; have HB1 := Lib.hid (And.intro hb1 (HP.out.new hb1)); clear hb1)
      | (go_at_call 46; refine (pfail_any HB1.out.2 2 (by decide)).mono ?_; rintro en w4 ⟨rfl, hs⟩; rw [HS.out] at hs; have HS4 := Lib.hid hs; clear hs)
      | (go_at_call 105; refine (ptake_any HS4.out.1).mono ?_; rintro en w2 ⟨p, k, rfl, hu, hs⟩; have HC := Lib.hid (text_any hs.1.below _ p k hu); have HS2 := Lib.hid hs; clear hu hs)
      | (go_at_call 104; refine HC.out.mono ?_; rintro en w3 ⟨rfl, hb3⟩; have HB3 := Lib.hid hb3; clear hb3))
    go_ret
    exact ⟨rfl, PStep.ahead HB1.out.1 (HS4.out.trans (HS2.out.new HB3.out))⟩
end Go.Proofs.YtakceggnadagmaaGreatDoor

namespace Go.Proofs.YtakceggnadagmaaGreatDoor
open Go Go.RowKit GlyphMath LexMath TreeMath ParseMath

/-- How many tokens are left. -/
def psLen (w : World) (X : Nat) : Nat := match w.cell? ⟨X, 0, none⟩ with
  | some (.slice _ n _) => n
  | _ => 0
theorem Pr.len {w0 w : World} {X : Nat} {S : PS} (h : Pr w0 w X S) : psLen w X = S.ts.length := by
  obtain ⟨G, o, c, h⟩ := h
  have c0 : w.cell? ⟨X, 0, none⟩ = some (.slice (some ⟨G, o, none⟩) S.ts.length c) := by rw [cell_plain h.head]; rfl
  unfold psLen
  rw [c0]
theorem plines_any {w0 w : World} {X : Nat} {S : PS} (h : Pr w0 w X S) :
    Calls Tryz.prog 76 #[.pointer (some ⟨X, 0, none⟩)] w fun e w' => e = .returned (.tuple #[]) ∧ PStep w0 w w' X S.lines := by
  have HP := Lib.hid h
  clear h
  go_enter Tryz.func76, Tryz.ntmps76
  go_wp2_with fail
  go_loopw [] (fun wr => ∃ f S', PStep w0 w wr X S' ∧ linesL f S' = S.lines ∧ S'.ts.length ≤ f) (fun wr => psLen wr X)
  case atStart => exact ⟨S.ts.length, S, PStep.refl HP.out, rfl, Nat.le_refl _⟩
  case round =>
    obtain ⟨f, S', hs, hm, hf⟩ := hrel
    have hpos := hs.1.good.pos
    obtain ⟨f, rfl⟩ : ∃ g, f = g + 1 := ⟨f - 1, by omega⟩
    have HT := Lib.hid (ptakes_any hs.1 [10])
    have HS := Lib.hid (And.intro hs (And.intro hm hf))
    clear hs hm hf hpos
    unfold PS.takes at HT
    cases hi : S'.is [10] with
    | true =>
      rw [hi, if_pos rfl] at HT
      have HI := Lib.hid hi
      clear hi
      go_wp2_with (go_at_call 102; (with_reducible refine HT.out.mono ?_); rintro en w1 ⟨rfl, hs1⟩; have HS1 := Lib.hid hs1; clear hs1)
      go_roundw
      case rel => exact ⟨f, _, HS.out.1.trans HS1.out, by rw [← HS.out.2.1, linesL, if_pos HI.out], by have := take_lt HS.out.1.1.good (is_ne HS.out.1.1.good (by decide) HI.out); have := HS.out.2.2; omega⟩
      case measure => rw [HS1.out.1.len, HS.out.1.1.len]; exact take_lt HS.out.1.1.good (is_ne HS.out.1.1.good (by decide) HI.out)
    | false =>
      rw [hi, if_neg (by decide)] at HT
      have HI := Lib.hid hi
      clear hi
      go_wp2_with (go_at_call 102; (with_reducible refine HT.out.mono ?_); rintro en w1 ⟨rfl, hs1⟩; have HS1 := Lib.hid hs1; clear hs1)
      go_end0
      refine ⟨rfl, ?_⟩
      rw [← HS.out.2.1, linesL, if_neg (by rw [HI.out]; decide)]
      exact HS.out.1.trans HS1.out

set_option maxRecDepth 4000 in
theorem psep_any {w0 w : World} {X : Nat} {S : PS} (h : Pr w0 w X S) :
    Calls Tryz.prog 78 #[.pointer (some ⟨X, 0, none⟩)] w fun e w' => e = .returned (.bool S.sep.1) ∧ PStep w0 w w' X S.sep.2 := by
  have HA := Lib.hid (ptakes_any h [59])
  clear h
  unfold PS.takes at HA
  unfold PS.sep
  cases h1 : S.is [59] with
  | true =>
    rw [h1, if_pos rfl] at HA
    dsimp only at HA
    clear h1
    go_enter Tryz.func78, Tryz.ntmps78
    go_wp2_with (first
      | (go_at_call 102; (with_reducible refine HA.out.mono ?_); rintro en w1 ⟨rfl, hs1⟩; have HS1 := Lib.hid hs1; clear hs1)
      | (go_at_call 76; refine (plines_any HS1.out.1).mono ?_; rintro en w2 ⟨rfl, hs2⟩; have HS2 := Lib.hid hs2; clear hs2))
    go_ret
    exact ⟨rfl, HS1.out.trans HS2.out⟩
  | false =>
    rw [h1, if_neg (by decide)] at HA
    dsimp only at HA
    clear h1
    have HT := Lib.hid (show ∀ W, Pr w0 W X S → _ from fun W hW => by have := ptakes_any hW [10]; unfold PS.takes at this; exact this)
    cases h2 : S.is [10] with
    | true =>
      rw [h2, if_pos rfl] at HT
      dsimp only at HT
      clear h2
      go_enter Tryz.func78, Tryz.ntmps78
      go_wp2_with (first
        | (go_at_call 102; (with_reducible refine HA.out.mono ?_); rintro en w1 ⟨rfl, hs1⟩; have HS1 := Lib.hid hs1; have HP1 := Lib.hid hs1.1; clear hs1)
        | (go_at_call 102; (with_reducible refine (HT.out _ HP1.out).mono ?_); rintro en w3 ⟨rfl, hs1⟩; have HS3 := Lib.hid hs1; clear hs1)
        | (go_at_call 76; refine (plines_any HS3.out.1).mono ?_; rintro en w2 ⟨rfl, hs2⟩; have HS2 := Lib.hid hs2; clear hs2))
      go_ret
      exact ⟨rfl, HS1.out.trans (HS3.out.trans HS2.out)⟩
    | false =>
      rw [h2, if_neg (by decide)] at HT
      dsimp only at HT
      clear h2
      go_enter Tryz.func78, Tryz.ntmps78
      go_wp2_with (first
        | (go_at_call 102; (with_reducible refine HA.out.mono ?_); rintro en w1 ⟨rfl, hs1⟩; have HS1 := Lib.hid hs1; have HP1 := Lib.hid hs1.1; clear hs1)
        | (go_at_call 102; (with_reducible refine (HT.out _ HP1.out).mono ?_); rintro en w3 ⟨rfl, hs1⟩; have HS3 := Lib.hid hs1; clear hs1))
      go_ret
      exact ⟨rfl, HS1.out.trans HS3.out⟩

set_option maxRecDepth 4000 in
theorem pisRedir_any {w0 w : World} {X : Nat} {S : PS} (h : Pr w0 w X S) :
    Calls Tryz.prog 158 #[.pointer (some ⟨X, 0, none⟩)] w fun e w' => e = .returned (.bool S.isRedir) ∧ Below w.heap.size w w' := by
  have HP := Lib.hid h
  have HA := Lib.hid (fun W hW => pis_any (w0 := w0) (w := W) (X := X) (S := S) hW [60])
  have HB := Lib.hid (fun W hW => pis_any (w0 := w0) (w := W) (X := X) (S := S) hW [62])
  have HC := Lib.hid (fun W hW => pis_any (w0 := w0) (w := W) (X := X) (S := S) hW [62, 62])
  have HI := Lib.hid (show S.isRedir = (S.is [60] || (S.is [62] || S.is [62, 62])) from rfl)
  clear h
  obtain ⟨B, hB⟩ : ∃ B, S.isRedir = B := ⟨_, rfl⟩
  rw [hB] at HI ⊢
  clear hB
  cases h1 : S.is [60] with
  | true =>
    rw [h1] at HA HI
    clear h1
    go_enter Tryz.func158, Tryz.ntmps158
    go_wp2_with (go_at_call 129; (with_reducible refine (HA.out _ HP.out).mono ?_); rintro en w1 ⟨rfl, hb1⟩; have HB1 := Lib.hid hb1; clear hb1)
    go_ret
    exact ⟨ret_bool (by rw [HI.out]; rfl), HB1.out⟩
  | false =>
    rw [h1] at HA HI
    clear h1
    cases h2 : S.is [62] with
    | true =>
      rw [h2] at HB HI
      clear h2
      go_enter Tryz.func158, Tryz.ntmps158
      go_wp2_with (first
        | (go_at_call 129; (with_reducible refine (HA.out _ HP.out).mono ?_); rintro en w1 ⟨rfl, hb1⟩; have HB1 := Lib.hid hb1; clear hb1)
        | (go_at_call 129; (with_reducible refine (HB.out _ (HP.out.new HB1.out)).mono ?_); rintro en w2 ⟨rfl, hb2⟩; have HB2 := Lib.hid (HB1.out.trans (hb2.mono HB1.out.size)); clear hb2))
      go_ret
      exact ⟨ret_bool (by rw [HI.out]; rfl), HB2.out⟩
    | false =>
      rw [h2] at HB HI
      clear h2
      go_enter Tryz.func158, Tryz.ntmps158
      go_wp2_with (first
        | (go_at_call 129; (with_reducible refine (HA.out _ HP.out).mono ?_); rintro en w1 ⟨rfl, hb1⟩; have HB1 := Lib.hid hb1; clear hb1)
        | (go_at_call 129; (with_reducible refine (HB.out _ (HP.out.new HB1.out)).mono ?_); rintro en w2 ⟨rfl, hb2⟩; have HB2 := Lib.hid (HB1.out.trans (hb2.mono HB1.out.size)); clear hb2)
        | (go_at_call 129; (with_reducible refine (HC.out _ (HP.out.new HB2.out)).mono ?_); rintro en w3 ⟨rfl, hb3⟩; have HB3 := Lib.hid (HB2.out.trans (hb3.mono HB2.out.size)); clear hb3))
      go_ret
      exact ⟨ret_bool (by rw [HI.out]; rfl), HB3.out⟩

theorem pbegin_any {w0 w : World} {X : Nat} {S : PS} (h : Pr w0 w X S) (d : Nat) :
    Calls Tryz.prog 153 #[.pointer (some ⟨X, 0, none⟩), .int .i64 (d : Int)] w fun e w' => e = .returned (.tuple #[]) ∧ PStep w0 w w' X (if 20 ≤ d then S.fail 3 else S) := by
  have HP := Lib.hid h
  clear h
  by_cases hd : 20 ≤ d
  · rw [if_pos hd]
    have hdi : (20 : Int) ≤ (d : Int) := by omega
    clear hd
    go_enter Tryz.func153, Tryz.ntmps153
    go_wp2_with (go_at_call 46; refine (pfail_any HP.out 3 (by decide)).mono ?_; rintro en w1 ⟨rfl, hs⟩; have HS := Lib.hid hs; clear hs)
    go_end0
    exact ⟨rfl, HS.out⟩
  · rw [if_neg hd]
    have hdi : ¬ (20 : Int) ≤ (d : Int) := by omega
    clear hd
    go_enter Tryz.func153, Tryz.ntmps153
    go_wp2_with fail
    go_end0
    exact ⟨rfl, PStep.refl HP.out⟩
end Go.Proofs.YtakceggnadagmaaGreatDoor

namespace Go.Proofs.YtakceggnadagmaaGreatDoor
open Go Go.RowKit GlyphMath LexMath TreeMath ParseMath

set_option maxHeartbeats 1000000 in
set_option maxRecDepth 4000 in
theorem pends_any {w0 w : World} {X : Nat} {S : PS} (h : Pr w0 w X S) :
    Calls Tryz.prog 79 #[.pointer (some ⟨X, 0, none⟩)] w fun e w' => e = .returned (.bool S.ends) ∧ Below w.heap.size w w' := by
  have HN := Lib.hid (fun W (hW : Pr w0 W X S) => pnext_any hW)
  have HP := Lib.hid h
  have HPB := Lib.hid h.below
  have HI := Lib.hid (show S.ends = (endsL.contains (textK S.hd) || S.hd.kind == 3) from rfl)
  clear h
  obtain ⟨B, hB⟩ : ∃ B, S.ends = B := ⟨_, rfl⟩
  rw [hB] at HI ⊢
  clear hB
  obtain ⟨t, ht⟩ : ∃ t, S.hd = t := ⟨_, rfl⟩
  rw [ht] at HN HI
  clear ht
  have HTX := Lib.hid (fun W (hW : Below w0.heap.size w0 W) p k (hu : PsAt w0 (.slice p t.word.length k) t.word) => text_any hW t p k hu)
  obtain ⟨R, hR⟩ : ∃ R, T (textK t) = R := ⟨_, rfl⟩
  have hl : textK t = R.toList := by rw [← hR, Lib.toList_data]
  rw [hR] at HTX
  rw [hl] at HI
  clear hR hl
  unfold tkV at HN HTX
  obtain ⟨kd, hkd⟩ : ∃ x, t.kind = x := ⟨_, rfl⟩
  obtain ⟨tx, htx⟩ : ∃ x, T t.text = x := ⟨_, rfl⟩
  obtain ⟨wl, hwl⟩ : ∃ x, t.word.length = x := ⟨_, rfl⟩
  obtain ⟨at_, hat⟩ : ∃ x : Int, (t.at_ : Int) = x := ⟨_, rfl⟩
  rw [hkd] at HI
  simp only [hkd, htx, hwl, hat] at HN HTX
  clear hkd htx hwl hat
  go_enter Tryz.func79, Tryz.ntmps79
  go_wp2_with (first
    | (go_at_call 45; (with_reducible refine (HN.out _ HP.out).mono ?_); rintro en w1 ⟨p, k, rfl, hu, hb1⟩; have HB1 := Lib.hid hb1; have HC := Lib.hid (HTX.out _ (HPB.out.trans (hb1.mono HPB.out.size)) p k hu); clear hu hb1)
    | (go_at_call 104; refine HC.out.mono ?_; rintro en w2 ⟨rfl, hb2⟩; have HB2 := Lib.hid (HB1.out.trans (hb2.mono HB1.out.size)); clear hb2)
    | (go_at_call 45; (with_reducible refine (HN.out _ (HP.out.new HB2.out)).mono ?_); rintro en w3 ⟨p2, k2, rfl, -, hb3⟩; have HB3 := Lib.hid (HB2.out.trans (hb3.mono HB2.out.size)); have qf := tok_f0 kd at_ tx p2 wl k2; clear hb3))
  all_goals go_ret
  all_goals first
    | exact ⟨ret_bool (by rw [HI.out]; simp_all [endsL]), HB2.out⟩
    | exact ⟨ret_bool (by rw [HI.out]; simp_all [endsL]), HB3.out⟩

theorem redir_info : (Tryz.prog.info? 103).map (·.size) = some 2 := by kernel_rfl
theorem ret_redir {fn : Func} {p : Tmp} (hf : fn.results = #[.cell p 103]) {tmps : Array Value} {k : Nat} {a b : Value} {w : World} {t : TypeId} {fr : Nat × Nat} (h : w.heap[k]? = some (.cells #[a, b] t fr)) (h2 : tmps.getD p undef = .pointer (some ⟨k, 0, none⟩)) :
    (results fn tmps).run Tryz.prog w = .ok (.agg #[a, b]) w := results_cell_row hf tmps w k t #[a, b] fr _ h2 h Tryz.underlying103 rfl redir_info
theorem predir_any {w0 w : World} {X : Nat} {S : PS} (h : Pr w0 w X S) :
    Calls Tryz.prog 159 #[.pointer (some ⟨X, 0, none⟩)] w fun e w' => ∃ p k, e = .returned (.agg #[.string (T (redirM S).1.1), .slice p (redirM S).1.2.length k]) ∧ PsAt w0 (.slice p (redirM S).1.2.length k) (redirM S).1.2 ∧ PStep w0 w w' X (redirM S).2 := by
  have HP := Lib.hid (fun o => h.new (below_new w o))
  have HX := Lib.hid h.base
  have HB := Lib.hid (below_new w)
  have HZ := Lib.hid (heap_alloc_new w)
  have HSZ := Lib.hid (show ∀ o, (w.alloc o).heap.size = w.heap.size + 1 from fun o => by simp)
  clear h
  obtain ⟨r, hr⟩ : ∃ r, redirM S = r := ⟨_, rfl⟩
  have HR := Lib.hid (show S.hd.text = r.1.1 ∧ S.take.word = (r.1.2, r.2) from by rw [← hr]; exact ⟨rfl, rfl⟩)
  rw [hr]
  clear hr
  obtain ⟨⟨op, ps⟩, S'⟩ := r
  dsimp only at HR ⊢
  obtain ⟨t, ht⟩ : ∃ t, S.hd = t := ⟨_, rfl⟩
  rw [ht] at HR
  obtain ⟨kd, hkd⟩ : ∃ x, t.kind = x := ⟨_, rfl⟩
  obtain ⟨wl, hwl⟩ : ∃ x, t.word.length = x := ⟨_, rfl⟩
  obtain ⟨at_, hat⟩ : ∃ x : Int, (t.at_ : Int) = x := ⟨_, rfl⟩
  obtain ⟨ro, hro⟩ : ∃ x, T op = x := ⟨_, rfl⟩
  obtain ⟨L, hL⟩ : ∃ x, ps.length = x := ⟨_, rfl⟩
  have HTK := Lib.hid (show ∀ W, Pr w0 W X S → Calls Tryz.prog 105 #[.pointer (some ⟨X, 0, none⟩)] W fun e w' => ∃ p k, e = .returned (.agg #[.int .i64 kd, .string ro, .slice p wl k, .int .i64 at_]) ∧ PStep w0 W w' X S.take from fun W hW => by
    refine (ptake_any hW).mono ?_
    rintro e w' ⟨p, k, he, -, hs⟩
    unfold tkV at he
    rw [ht, hkd, hwl, hat, HR.out.1, hro] at he
    exact ⟨p, k, he, hs⟩)
  have HW := Lib.hid (show ∀ W, Pr w0 W X S.take → Calls Tryz.prog 191 #[.pointer (some ⟨X, 0, none⟩)] W fun e w' => ∃ p k, e = .returned (.agg #[.slice p L k]) ∧ PsAt w0 (.slice p L k) ps ∧ PStep w0 W w' X S' from fun W hW => by
    have := pword_any hW
    rw [HR.out.2] at this
    rw [← hL]
    exact this)
  rw [hro, hL]
  clear ht hkd hwl hat hro hL
  go_enter Tryz.func159, Tryz.ntmps159
  go_wp2_with (first
    | (go_at_call 105; refine (HTK.out _ (HP.out _)).mono ?_; rintro en w1 ⟨p, k, rfl, hs⟩; have qf := tok_f1 kd at_ ro p wl k; have HS1 := Lib.hid (And.intro hs (And.intro (hs.2.heap (HZ.out _) (by have := HX.out; omega)) (hs.2.size))); clear hs)
    | (go_at_call 191; refine (HW.out _ HS1.out.1.1).mono ?_; rintro en w2 ⟨p2, k2, rfl, hu, hs⟩; have hz := hs.2.heap HS1.out.2.1 (by have := HX.out; omega); have c0 := cell_plain hz 0; have c1 := cell_plain hz 1; have f0 := frozen_plain hz 0; have f1 := frozen_plain hz 1; have HS2 := Lib.hid (And.intro hs (And.intro hu hz)); clear hs hu hz))
  (try simp only [Exit.inBlock, Exit.then])
  obtain ⟨hs, hu, hz⟩ := HS2.out
  refine bodyPost_ret (ret_redir rfl (heap_setCell_same _ w.heap.size 1 _ _ _ (heap_setCell_same w2 w.heap.size 0 _ _ _ hz)) rfl) rfl ?_
  refine ⟨p2, k2, rfl, hu, ?_⟩
  have hk : Kept (fun i => i = w.heap.size) w2 ((w2.setCell ⟨w.heap.size, 0, none⟩ (.string ro)).setCell ⟨w.heap.size, 1, none⟩ (.slice p2 L k2)) := ((Kept.refl (fun i => i = w.heap.size) w2).setCell (p := ⟨w.heap.size, 0, none⟩) (.inl rfl) _).setCell (p := ⟨w.heap.size, 1, none⟩) (.inl rfl) _
  refine ⟨hs.1.kept hk (by have := HX.out; omega) (fun i hi => by have := HX.out; omega), ?_⟩
  exact (((Kept.of_below (HB.out _)).on HS1.out.1.2).on hs.2).trans hk fun i hi => .inr (by omega)
end Go.Proofs.YtakceggnadagmaaGreatDoor

namespace Go.Proofs.YtakceggnadagmaaGreatDoor
open Go Go.RowKit GlyphMath LexMath TreeMath ParseMath

theorem PrO.hd1 {w0 w : World} {X G o c : Nat} {S : PS} (h : PrO w0 w X S G o c) (h2 : 2 ≤ S.ts.length) : ∃ p k, PsAt w0 (.slice p (S.ts.tail.headD tkEnd).word.length k) (S.ts.tail.headD tkEnd).word ∧
    w.cell? ⟨G, o + 4, none⟩ = some (.int .i64 (S.ts.tail.headD tkEnd).kind) ∧ w.cell? ⟨G, o + 4 + 1, none⟩ = some (.string (T (S.ts.tail.headD tkEnd).text)) ∧ w.cell? ⟨G, o + 4 + 2, none⟩ = some (.slice p (S.ts.tail.headD tkEnd).word.length k) ∧ w.cell? ⟨G, o + 4 + 3, none⟩ = some (.int .i64 ((S.ts.tail.headD tkEnd).at_ : Int)) := by
  have h0 : S.ts[1]? = some (S.ts.tail.headD tkEnd) := by
    obtain ⟨ts, a, e⟩ := S
    match ts, h2 with
    | _ :: b :: r, _ => rfl
  obtain ⟨u, hu, ht, -⟩ := h.toks 1 _ h0
  obtain ⟨b, o', he, a0, a1, a2, a3⟩ := ht.below h.below
  simp only [Option.some.injEq, Addr.mk.injEq, and_true] at he
  obtain ⟨rfl, rfl⟩ := he
  obtain ⟨p, k, rfl, -⟩ := hu.is
  rw [Nat.one_mul] at a0 a1 a2 a3
  exact ⟨p, k, hu, a0, a1, a2, a3⟩
theorem nameT_nil : nameT [] = false := by decide +kernel
set_option maxHeartbeats 1000000 in
set_option maxRecDepth 4000 in
theorem pisFun_any {w0 w : World} {X : Nat} {S : PS} (h : Pr w0 w X S) :
    Calls Tryz.prog 154 #[.pointer (some ⟨X, 0, none⟩)] w fun e w' => e = .returned (.bool S.isFun) ∧ Below w.heap.size w w' := by
  have HA := Lib.hid (pisName_any h)
  have HN := Lib.hid (fun W (hW : Pr w0 W X S) => pnext_any hW)
  have HP := Lib.hid h
  have HPB := Lib.hid h.below
  have HI := Lib.hid (show S.isFun = (S.isName && (!reservedT (textK S.hd) && textK (S.ts.tail.headD tkEnd) == [40])) from rfl)
  have HTW := Lib.hid (show S.isName = true → 2 ≤ S.ts.length from fun hn => two_of h.good fun h3 => by
    unfold PS.isName at hn
    rw [h.good.tx3 h3, nameT_nil] at hn
    cases hn)
  clear h
  obtain ⟨B, hB⟩ : ∃ B, S.isFun = B := ⟨_, rfl⟩
  rw [hB] at HI ⊢
  clear hB
  cases h1 : S.isName with
  | false =>
    rw [h1] at HA HI
    clear h1
    go_enter Tryz.func154, Tryz.ntmps154
    go_wp2_with (go_at_call 179; refine HA.out.mono ?_; rintro en w1 ⟨rfl, hb1⟩; have HB1 := Lib.hid hb1; clear hb1)
    go_ret
    exact ⟨ret_bool (by rw [HI.out]; rfl), HB1.out⟩
  | true =>
    rw [h1] at HA HI HTW
    have HT2 := Lib.hid (HTW.out rfl)
    clear h1 HTW
    obtain ⟨t, ht⟩ : ∃ t, S.hd = t := ⟨_, rfl⟩
    rw [ht] at HN HI
    clear ht
    have HRE := Lib.hid (fun W => reserved_any (textK t) W)
    have HTX := Lib.hid (fun W (hW : Below w0.heap.size w0 W) p k (hu : PsAt w0 (.slice p t.word.length k) t.word) => text_any hW t p k hu)
    cases h2 : reservedT (textK t) with
    | true =>
      rw [h2] at HRE HI
      clear h2
      go_enter Tryz.func154, Tryz.ntmps154
      go_wp2_with (first
        | (go_at_call 179; refine HA.out.mono ?_; rintro en w1 ⟨rfl, hb1⟩; have HB1 := Lib.hid hb1; clear hb1)
        | (go_at_call 45; refine (HN.out _ (HP.out.new HB1.out)).mono ?_; rintro en w2 ⟨p, k, rfl, hu, hb2⟩; have HB2 := Lib.hid (HB1.out.trans (hb2.mono HB1.out.size)); have HC := Lib.hid (HTX.out _ (HPB.out.trans (HB2.out.mono HPB.out.size)) p k hu); clear hu hb2)
        | (go_at_call 104; refine HC.out.mono ?_; rintro en w3 ⟨rfl, hb3⟩; have HB3 := Lib.hid (HB2.out.trans (hb3.mono HB2.out.size)); clear hb3)
        | (go_at_call 180; refine (HRE.out _).mono ?_; rintro en w4 ⟨rfl, rfl⟩))
      go_ret
      exact ⟨ret_bool (by rw [HI.out]; rfl), HB3.out⟩
    | false =>
      rw [h2] at HRE HI
      clear h2
      obtain ⟨G, o, c, hO⟩ := HP.out
      have HO := Lib.hid hO
      obtain ⟨p1, k1, hu1, -⟩ := hO.hd1 HT2.out
      have HCELL := Lib.hid (show ∀ W, Below w.heap.size w W → W.cell? ⟨X, 0, none⟩ = some (.slice (some ⟨G, o, none⟩) S.ts.length c) ∧ Below w0.heap.size w0 W from fun W hb => ⟨by rw [cell_plain (HO.out.kept0 hb).head]; rfl, (HO.out.kept0 hb).below⟩)
      have HTOK := Lib.hid (show ∀ W, Below w.heap.size w W → _ from fun W hb => (HO.out.kept0 hb).hd1 HT2.out)
      clear hO hu1
      obtain ⟨t1, ht1⟩ : ∃ t1, S.ts.tail.headD tkEnd = t1 := ⟨_, rfl⟩
      rw [ht1] at HI HTOK
      clear ht1 p1 k1
      obtain ⟨N, hN⟩ : ∃ N, S.ts.length = N := ⟨_, rfl⟩
      rw [hN] at HCELL HT2
      have hN1 : (1 : Int) < (N : Int) := by have := HT2.out; omega
      clear hN
      have HTX1 := Lib.hid (fun W (hW : Below w0.heap.size w0 W) p k (hu : PsAt w0 (.slice p t1.word.length k) t1.word) => text_any hW t1 p k hu)
      obtain ⟨R, hR⟩ : ∃ R, T (textK t1) = R := ⟨_, rfl⟩
      have hl : textK t1 = R.toList := by rw [← hR, Lib.toList_data]
      rw [hR] at HTX1
      rw [hl] at HI
      clear hR hl
      unfold tkV at HTX1
      obtain ⟨kd, hkd⟩ : ∃ x, t1.kind = x := ⟨_, rfl⟩
      obtain ⟨tx, htx⟩ : ∃ x, T t1.text = x := ⟨_, rfl⟩
      obtain ⟨wl, hwl⟩ : ∃ x, t1.word.length = x := ⟨_, rfl⟩
      obtain ⟨at_, hat⟩ : ∃ x : Int, (t1.at_ : Int) = x := ⟨_, rfl⟩
      simp only [hkd, htx, hwl, hat] at HTX1 HTOK
      clear hkd htx hwl hat
      go_enter Tryz.func154, Tryz.ntmps154
      go_wp2_with (first
        | (go_at_call 179; refine HA.out.mono ?_; rintro en w1 ⟨rfl, hb1⟩; have HB1 := Lib.hid hb1; clear hb1)
        | (go_at_call 45; refine (HN.out _ (HP.out.new HB1.out)).mono ?_; rintro en w2 ⟨p, k, rfl, hu, hb2⟩; have HB2 := Lib.hid (HB1.out.trans (hb2.mono HB1.out.size)); have HC := Lib.hid (HTX.out _ (HPB.out.trans (HB2.out.mono HPB.out.size)) p k hu); clear hu hb2)
        | (go_at_call 104; (with_reducible refine HC.out.mono ?_); rintro en w3 ⟨rfl, hb3⟩; have HB3 := Lib.hid (HB2.out.trans (hb3.mono HB2.out.size)); clear hb3)
        | (go_at_call 180; refine (HRE.out _).mono ?_; rintro en w4 ⟨rfl, rfl⟩; obtain ⟨c0, hbz⟩ := HCELL.out _ HB3.out; obtain ⟨p1, k1, hu1, a0, a1, a2, a3⟩ := HTOK.out _ HB3.out; have HC1 := Lib.hid (HTX1.out _ hbz p1 k1 hu1); clear hbz hu1)
        | (go_at_call 104; (with_reducible refine HC1.out.mono ?_); rintro en w5 ⟨rfl, hb5⟩; have HB5 := Lib.hid (HB3.out.trans (hb5.mono HB3.out.size)); clear hb5))
      go_ret
      exact ⟨ret_bool (by rw [HI.out]; simp), HB5.out⟩
end Go.Proofs.YtakceggnadagmaaGreatDoor
