/-
  Proved: texts joined: Proved: the contract of a parser's fail. Conditions: the reader lies in memory.
  Proved: plain facts on a text's next letter, of an ASCII byte and of another. Conditions: as each says.
  Proved: contracts of the library's searches in a text, as the program asks them (strings.ContainsAny, ContainsRune at ASCII sets, Contains of a byte, Cut at '='). Conditions: as each says.
  Proved: contracts of tree's isBare, isOne, isOther, reckoning and letters. Conditions: texts of at most 2^20 bytes.
  Proved: a contract of tree's reckoning. Conditions: a text of at most 2^20 bytes.
  Proved: a contract of tree's variable. Conditions: tree's row answers for a Var's Word.
  Proved: a contract of tree's part. Conditions: tree's row answers for a Var's Word.
  Proved: within a region that draws its order, an operation that only reads is taken first, one that is not wanted is passed by. Conditions: as each says.
  Proved: a contract of tree's row. Conditions: none.
  Proved: contracts of tree's Word, Plain, opening, bare, gives. Conditions: texts of at most 2^20 bytes.
  Proved: contracts of tree's Plain, bare, gives. Conditions: texts of at most 2^20 bytes.
  Proved: contracts of tree's rank and takes. Conditions: none.
  Proved: contracts of tree's all over words, rows of words, assigns, redirs, and of what it asks of each (pattern, assign, redir). Conditions: texts of at most 2^20 bytes.
  Proved: contracts of tree's Reserved, and of what a shape asks of a node. Conditions: none.
-/
import Derived.Test.YtakceggnadagmaaGreatDoorPj06
import Derived.Deep.RegionHeld
import Derived.Test.YtakceggnadagmaaGreatDoorPj01
import Derived.Test.YtakceggnadagmaaGreatDoorPj04
import Derived.Lib.OthersKept
import Derived.LoopTactic
import Derived.Test.YtakceggnadagmaaGreatDoorPj02
import Derived.Test.YtakceggnadagmaaGreatDoorRows
import Derived.Deep.RegionWith
import Derived.Deep.QuietTactic
import Derived.BigQuiet
namespace Go.Proofs.YtakceggnadagmaaGreatDoor
open Go Go.RowKit GlyphMath LexMath TreeMath ParseMath

theorem three_free {w : World} {k : Nat} {a b c : Value} {t : TypeId} (h : w.heap[k]? = some (.cells #[a, b, c] t (0, 0))) (j : Nat) : w.frozen? ⟨k, j, none⟩ = false := frozen_plain h j
theorem below_drewW {B : Nat} {w w' : World} (h : Below B w w') : Below B w w'.drew := ⟨h.os, h.tape, h.output, h.size, h.block⟩
theorem PrO.dropped {w0 w : World} {X : Nat} {S S' : PS} {G o c : Nat} (h : PrO w0 w X S G o c) {V : World} {n : Nat} (hn : n < S.ts.length) (hts : S'.ts = S.ts.drop n) (hg : GoodS S')
    (hb : Below w0.heap.size w0 V) (hV : V.heap[X]? = some (.cells #[.slice (some ⟨G, o + n * 4, none⟩) (S.ts.length - n) (c - n), .int .i64 (S'.at_ : Int), .int .i64 (S'.err : Int)] 53 (0, 0))) : Pr w0 V X S' := by
  have hc := h.cap
  have hl : S'.ts.length = S.ts.length - n := by rw [hts, List.length_drop]
  exact ⟨G, o + n * 4, c - n, hb, h.base, by rw [hl]; exact hV, by omega, by rw [hts]; exact h.toks.drop n, hg⟩

set_option maxHeartbeats 1000000 in
set_option maxRecDepth 100000 in
theorem pfail_any {w0 w : World} {X : Nat} {S : PS} (h : Pr w0 w X S) (e : Nat) (he : e ≤ 3) :
    Calls Tryz.prog 46 #[.pointer (some ⟨X, 0, none⟩), .int .i64 (e : Int)] w fun en w' => en = .returned (.tuple #[]) ∧ PStep w0 w w' X (S.fail e) := by
  have HN := Lib.hid (pnext_any h)
  have HX := Lib.hid h.base
  have HG := Lib.hid (to_fail h.good he).good
  have hpos := h.good.pos
  obtain ⟨G, o, c, h⟩ := h
  have HO := Lib.hid h
  have hca := h.cap
  have c0 : w.cell? ⟨X, 0, none⟩ = some (.slice (some ⟨G, o, none⟩) S.ts.length c) := by rw [cell_plain h.head]; rfl
  have c2 : w.cell? ⟨X, 2, none⟩ = some (.int .i64 (S.err : Int)) := by rw [cell_plain h.head]; rfl
  have f0 := frozen_plain h.head 0
  have HHD := Lib.hid h.head
  obtain ⟨N, hN⟩ : ∃ N, S.ts.length = N := ⟨_, rfl⟩
  have HNN := Lib.hid hN
  rw [hN] at c0 hpos hca HHD
  obtain ⟨M, hM⟩ : ∃ M : Nat, M = N - 1 := ⟨_, rfl⟩
  have hwr : IntKind.i64.wrap ((N : Int) - 1) = (M : Int) := by
    have e1 : (N : Int) - 1 = (M : Int) := by omega
    have hfew := HO.out.good.few
    have h2 := HNN.out
    rw [e1]; exact IntWalk.i64_in _ ⟨by omega, by omega⟩
  have q0 : (0 : Int) ≤ (M : Int) := by omega
  have q1 : (M : Int) ≤ (N : Int) := by omega
  have q2 : (N : Int) ≤ (c : Int) := by omega
  have q3 : (M : Int) < (c : Int) := by omega
  have q4 : (c - M == 0) = false := by
    have : ¬ c - M = 0 := by omega
    simpa using this
  have q5 : ¬ c = M := by omega
  have HM := Lib.hid (And.intro hM hpos)
  obtain ⟨er, her⟩ : ∃ er, S.err = er := ⟨_, rfl⟩
  have HER := Lib.hid her
  rw [her] at c2
  clear h hN hM hpos hca her
  by_cases hz : er = 0
  · subst hz
    obtain ⟨t, ht⟩ : ∃ t, S.hd = t := ⟨_, rfl⟩
    have HT := Lib.hid ht
    rw [ht] at HN
    unfold tkV at HN
    obtain ⟨kd, hkd⟩ : ∃ x, t.kind = x := ⟨_, rfl⟩
    obtain ⟨tx, htx⟩ : ∃ x, T t.text = x := ⟨_, rfl⟩
    obtain ⟨wl, hwl⟩ : ∃ x, t.word.length = x := ⟨_, rfl⟩
    obtain ⟨at_, hat⟩ : ∃ x, t.at_ = x := ⟨_, rfl⟩
    have HAT := Lib.hid hat
    simp only [hkd, htx, hwl, hat] at HN
    clear ht hkd htx hwl hat
    rw [show ((0 : Nat) : Int) = 0 from rfl] at c2
    go_enter Tryz.func46, Tryz.ntmps46
    go_wp2_with (go_at_call 45; refine HN.out.mono ?_; rintro en w1 ⟨p, k, rfl, hu, hb1⟩; have HB1 := Lib.hid (And.intro hb1 (HO.out.kept0 hb1).head); clear hu hb1; have d1 : w1.cell? ⟨X, 1, none⟩ = some (.int .i64 (S.at_ : Int)) := (by rw [cell_plain HB1.out.2]; rfl); have d2 : w1.cell? ⟨X, 2, none⟩ = some (.int .i64 (S.err : Int)) := (by rw [cell_plain HB1.out.2]; rfl); have qf := tok_f3 kd (at_ : Int) tx p wl k; have g1 := frozen_plain HB1.out.2 1; have g2 := frozen_plain HB1.out.2 2)
    have hV0 := heap_setCell_same _ X 2 _ _ (.int .i64 (e : Int)) (heap_setCell_same w1 X 1 _ _ (.int .i64 (at_ : Int)) HB1.out.2)
    rw [HNN.out] at hV0
    have hV : ((w1.setCell ⟨X, 1, none⟩ (.int .i64 (at_ : Int))).setCell ⟨X, 2, none⟩ (.int .i64 (e : Int))).heap[X]? = some (.cells #[.slice (some ⟨G, o, none⟩) N c, .int .i64 (at_ : Int), .int .i64 (e : Int)] 53 (0, 0)) := by simpa using hV0
    obtain ⟨V, hVV⟩ : ∃ V, V = (w1.setCell ⟨X, 1, none⟩ (.int .i64 (at_ : Int))).setCell ⟨X, 2, none⟩ (.int .i64 (e : Int)) := ⟨_, rfl⟩
    rw [← hVV] at hV ⊢
    have HV := Lib.hid (And.intro hVV hV)
    clear c0 c2 f0 d1 d2 g1 g2 hV0 hVV
    have c0 : V.cell? ⟨X, 0, none⟩ = some (.slice (some ⟨G, o, none⟩) N c) := by rw [cell_plain hV]; rfl
    have f0 := frozen_plain hV 0
    clear hV
    go_region
    go_end0
    refine ⟨rfl, ?_⟩
    have hg := heap_setCell_same V X 0 _ _ (.slice (some ⟨G, o + M * 4, none⟩) (N - M) (c - M)) HV.out.2
    have hb2 : Below w0.heap.size w0 (V.setCell ⟨X, 0, none⟩ (.slice (some ⟨G, o + M * 4, none⟩) (N - M) (c - M))) := by
      rw [HV.out.1]
      exact (((HO.out.below.trans (HB1.out.1.mono HO.out.below.size)).setCell HX.out.1 _).setCell HX.out.1 _).setCell HX.out.1 _
    have hk : Kept (fun i => i = X) w (V.setCell ⟨X, 0, none⟩ (.slice (some ⟨G, o + M * 4, none⟩) (N - M) (c - M))) := by
      rw [HV.out.1]
      exact (((Kept.of_below (D := fun i => i = X) HB1.out.1).setCell (p := ⟨X, 1, none⟩) (.inl rfl) _).setCell (p := ⟨X, 2, none⟩) (.inl rfl) _).setCell (p := ⟨X, 0, none⟩) (.inl rfl) _
    refine ⟨?_, hk.drew⟩
    refine HO.out.dropped (n := M) (by have := HM.out; have := HNN.out; omega) (by show S.ts.drop (S.ts.length - 1) = _; rw [HNN.out, HM.out.1]) HG.out (below_drewW hb2) ?_
    rw [HNN.out, show (S.fail e).at_ = at_ by show (if S.err = 0 then S.hd.at_ else S.at_) = at_; rw [if_pos HER.out, HT.out, HAT.out], show (S.fail e).err = e by show (if S.err = 0 then e else S.err) = e; rw [if_pos HER.out]]
    exact hg
  · have hzi : ((er : Int) == 0) = false := by
      have : ¬ (er : Int) = 0 := by omega
      simpa using this
    have HZ := Lib.hid (show S.err ≠ 0 from by rw [HER.out]; exact hz)
    clear hz
    go_enter Tryz.func46, Tryz.ntmps46
    go_wp2_with fail
    go_region
    go_end0
    refine ⟨rfl, ?_⟩
    have hg := heap_setCell_same w X 0 _ _ (.slice (some ⟨G, o + M * 4, none⟩) (N - M) (c - M)) HHD.out
    have hb2 : Below w0.heap.size w0 (w.setCell ⟨X, 0, none⟩ (.slice (some ⟨G, o + M * 4, none⟩) (N - M) (c - M))) := HO.out.below.setCell HX.out.1 _
    have hk : Kept (fun i => i = X) w (w.setCell ⟨X, 0, none⟩ (.slice (some ⟨G, o + M * 4, none⟩) (N - M) (c - M))) := (Kept.refl (fun i => i = X) w).setCell (p := ⟨X, 0, none⟩) (.inl rfl) _
    refine ⟨?_, hk.drew⟩
    refine HO.out.dropped (n := M) (by have := HM.out; have := HNN.out; omega) (by show S.ts.drop (S.ts.length - 1) = _; rw [HNN.out, HM.out.1]) HG.out (below_drewW hb2) ?_
    rw [HNN.out, show (S.fail e).at_ = S.at_ by show (if S.err = 0 then S.hd.at_ else S.at_) = _; rw [if_neg HZ.out], show (S.fail e).err = S.err by show (if S.err = 0 then e else S.err) = _; rw [if_neg HZ.out]]
    exact hg
end Go.Proofs.YtakceggnadagmaaGreatDoor

namespace Go.Proofs.YtakceggnadagmaaGreatDoor.TreeMath
open Go Go.Lib GlyphMath LexMath

set_option maxHeartbeats 1000000 in
theorem decodeN_high (n b0 b1 b2 b3 : Nat) (h : 128 ≤ b0) (h0 : b0 < 256) : 128 ≤ (decodeN n b0 b1 b2 b3).1 ∧ (decodeN n b0 b1 b2 b3).1 ≤ 1114111 ∧ ((decodeN n b0 b1 b2 b3).1 < 55296 ∨ 57343 < (decodeN n b0 b1 b2 b3).1) ∧
    (1 < (decodeN n b0 b1 b2 b3).2 → 128 ≤ b1) ∧ (2 < (decodeN n b0 b1 b2 b3).2 → 128 ≤ b2) ∧ (3 < (decodeN n b0 b1 b2 b3).2 → 128 ≤ b3) ∧ (decodeN n b0 b1 b2 b3).2 ≤ 4 := by
  unfold decodeN
  rw [if_neg (by omega)]
  repeat' split
  all_goals refine ⟨?_, ?_, ?_, ?_, ?_, ?_, ?_⟩ <;> simp only <;> omega

theorem get_drop (s : ByteArray) (i : Nat) (h : i < s.size) : s.data.toList.drop i = s.get! i :: s.data.toList.drop (i + 1) := by
  have hl : i < s.data.toList.length := by rw [← size_eq]; exact h
  rw [List.drop_eq_getElem_cons hl]
  congr 1
  have h2 : s.data.toList[i]? = some (s.data.toList[i]) := List.getElem?_eq_getElem hl
  rw [← getD_get!', List.getD_eq_getElem?_getD, h2]
  rfl
theorem dec_low (s : ByteArray) (i : Nat) (h : (s.get! i).toNat < 128) : Utf8.decode s i = ((s.get! i).toNat, 1) := by
  rw [decode_at]
  unfold decodeN
  rw [if_pos h]
theorem any_cons (b : UInt8) (l cs : List UInt8) : anyIn (b :: l) cs = (cs.contains b || anyIn l cs) := rfl
theorem not_in {b : UInt8} {cs : List UInt8} (hb : 128 ≤ b.toNat) (hc : ∀ c ∈ cs, c.toNat < 128) : cs.contains b = false := by
  cases h : cs.contains b with
  | false => rfl
  | true =>
    have := hc b (by simpa using h)
    omega
theorem any_skip (s : ByteArray) (cs : List UInt8) (hc : ∀ c ∈ cs, c.toNat < 128) : ∀ d i, i + d ≤ s.size → (∀ j, j < d → 128 ≤ (s.get! (i + j)).toNat) → anyIn (s.data.toList.drop i) cs = anyIn (s.data.toList.drop (i + d)) cs
  | 0, _, _, _ => rfl
  | d + 1, i, hs, hj => by
    rw [get_drop s i (by omega), any_cons, not_in (show 128 ≤ (s.get! i).toNat from hj 0 (by omega)) hc, Bool.false_or, any_skip s cs hc d (i + 1) (by omega) (fun j h => by
      have := hj (j + 1) (by omega)
      rwa [show i + (j + 1) = i + 1 + j by omega] at this)]
    congr 2; omega
/-- A letter that is no ASCII. -/
theorem dec_high (s : ByteArray) (i : Nat) (hi : i < s.size) (h : 128 ≤ (s.get! i).toNat) : ∃ r d, Utf8.decode s i = (r, d) ∧ 128 ≤ r ∧ GoodL r ∧ 1 ≤ d ∧ i + d ≤ s.size ∧ ∀ cs : List UInt8, (∀ c ∈ cs, c.toNat < 128) → anyIn (s.data.toList.drop i) cs = anyIn (s.data.toList.drop (i + d)) cs := by
  obtain ⟨r, d, hd⟩ : ∃ r d, Utf8.decode s i = (r, d) := ⟨_, _, rfl⟩
  have hw := width_pos s i hi
  have hl := width_le s i hi
  have hh := decodeN_high (s.size - i) (s.get! i).toNat (s.get! (i + 1)).toNat (s.get! (i + 2)).toNat (s.get! (i + 3)).toNat h (s.get! i).toNat_lt
  rw [← decode_at, hd] at hh
  rw [hd] at hw hl
  simp only at hh hw hl
  obtain ⟨h1, h2, h3, h4, h5, h6, h7⟩ := hh
  refine ⟨r, d, hd, h1, ⟨by omega, h2, h3⟩, hw, hl, fun cs hc => any_skip s cs hc d i hl fun j hj => ?_⟩
  match j, hj with
  | 0, _ => exact h
  | 1, hj => exact h4 hj
  | 2, hj => exact h5 hj
  | 3, hj => exact h6 hj
  | j + 4, hj => omega
theorem drop_all (s : ByteArray) (i : Nat) (h : ¬ i < s.size) : s.data.toList.drop i = [] := by
  rw [List.drop_eq_nil_iff, ← size_eq]; omega
end Go.Proofs.YtakceggnadagmaaGreatDoor.TreeMath

namespace Go.Proofs.YtakceggnadagmaaGreatDoor
open Go Go.RowKit GlyphMath LexMath TreeMath

/-- The number of a byte in a text: it is there. -/
theorem indexByte_in (l : List UInt8) (c : UInt8) : decide (0 ≤ Lib.indexByte l c) = l.contains c := by
  induction l with
  | nil => rfl
  | cons b r ih =>
    rw [List.contains_cons, ← ih]
    by_cases h : b = c
    · subst h
      simp [Lib.indexByte]
    · have h1 : (b == c) = false := by simpa using h
      have h2 : (c == b) = false := by simpa using fun e => h e.symm
      have hm : Lib.indexByte r c = -1 ∨ 0 ≤ Lib.indexByte r c := by
        clear ih
        induction r with
        | nil => exact .inl rfl
        | cons x r ih =>
          unfold Lib.indexByte
          by_cases hx : (x == c) = true
          · rw [if_pos hx]; exact .inr (Int.le_refl 0)
          · rw [if_neg hx]
            rcases ih with h | h
            · rw [h]; exact .inl rfl
            · have : (Lib.indexByte r c == -1) = false := by
                have : Lib.indexByte r c ≠ -1 := by omega
                simpa using this
              rw [this]; exact .inr (by simp; omega)
      rw [Lib.indexByte, h1, h2, Bool.false_or]
      rcases hm with h | h
      · rw [h]; rfl
      · have : (Lib.indexByte r c == -1) = false := by
          have : Lib.indexByte r c ≠ -1 := by omega
          simpa using this
        rw [this]
        simp only [Bool.false_eq_true, ↓reduceIte]
        rw [decide_eq_true h, decide_eq_true (by omega)]
/-- A letter among ASCII ones. -/
def inSet (cs : List UInt8) (r : Nat) : Bool := decide (r < 128) && cs.contains r.toUInt8
theorem rune_in (s : ByteArray) (hs : ∀ b ∈ s.data.toList, b.toNat < 128) (hz : s.size ≤ 100) (r : Nat) (hr : r < 128 ∨ GoodL r) (w : World) :
    Calls Tryz.prog 144 #[.string s, .int .i32 (r : Int)] w fun e w' => ∃ k : Int, e = .returned (.int .i64 k) ∧ decide (0 ≤ k) = inSet s.data.toList r ∧ Below w.heap.size w w' := by
  by_cases h : r < 128
  · refine (Tryz.strings_IndexRune_ascii s (r : Int) w (by omega) (by omega)).mono ?_
    rintro e w' ⟨rfl, rfl⟩
    refine ⟨_, rfl, ?_, Below.refl _ _⟩
    rw [indexByte_in, show ((r : Int).toNat) = r from rfl]
    unfold inSet
    rw [decide_eq_true h, Bool.true_and]
  · have hf : inSet s.data.toList r = false := by unfold inSet; rw [decide_eq_false h, Bool.false_and]
    have hi : Calls Tryz.prog 144 #[.string s, .int .i32 (r : Int)] w fun e w' => e = .returned (.int .i64 (-1)) ∧ Below w.heap.size w w' := by
      by_cases he : r = 65533
      · subst he; exact index_none s w hs
      · exact index_high s r w (by omega) (hr.resolve_left h) he hs hz
    refine hi.mono ?_
    rintro e w' ⟨rfl, hb⟩
    exact ⟨_, rfl, by rw [hf]; rfl, hb⟩
theorem crune_in (s : ByteArray) (hs : ∀ b ∈ s.data.toList, b.toNat < 128) (hz : s.size ≤ 100) (r : Nat) (hr : r < 128 ∨ GoodL r) (w : World) :
    Calls Tryz.prog 121 #[.string s, .int .i32 (r : Int)] w fun e w' => e = .returned (.bool (inSet s.data.toList r)) ∧ Below w.heap.size w w' := by
  have HI := Lib.hid (rune_in s hs hz r hr w)
  generalize inSet s.data.toList r = B at HI ⊢
  clear hs hz hr
  go_enter Tryz.func121, Tryz.ntmps121
  go_wp2_with (go_at_call 144; refine HI.out.mono ?_; rintro e w1 ⟨k, rfl, hk, hb⟩; have HB := Lib.hid (And.intro hk hb); clear hk hb)
  go_ret
  exact ⟨ret_bool HB.out.1, HB.out.2⟩

/-! ### Cut at a byte -/
theorem ahead_index : ∀ (l : List UInt8), (∃ i, i < l.length ∧ Lib.indexByte l 61 = (i : Int) ∧ aheadT l = some (l.take i)) ∨ (Lib.indexByte l 61 = -1 ∧ aheadT l = none)
  | [] => .inr ⟨rfl, rfl⟩
  | b :: l => by
    rw [Lib.indexByte, aheadT]
    by_cases h : b = 61
    · subst h
      exact .inl ⟨0, by simp, by simp, by simp⟩
    · have h1 : (b == 61) = false := by simpa using h
      rw [h1, if_neg h]
      rcases ahead_index l with ⟨i, h2, h3, h4⟩ | ⟨h3, h4⟩
      · refine .inl ⟨i + 1, by simpa using h2, ?_, ?_⟩
        · rw [h3]
          have : (((i : Int)) == -1) = false := beq_eq_false_iff_ne.2 (by omega)
          rw [this]
          simp
        · rw [h4]; rfl
      · exact .inr ⟨by rw [h3]; rfl, by rw [h4]; rfl⟩
set_option maxHeartbeats 2000000 in
set_option maxRecDepth 100000 in
theorem slcut_any (s : ByteArray) (w : World) (hs : s.size ≤ 1048576) :
    Calls Tryz.prog 200 #[.string s, .string ⟨#[61]⟩] w fun e w' => ∃ a b : ByteArray, ∃ f : Bool, e = .returned (.tuple #[.string a, .string b, .bool f]) ∧ (aheadT s.data.toList = if f then some a.data.toList else none) ∧ ∃ n, w' = w.drewN n := by
  have HI := Lib.hid (fun W => Tryz.stringslite_Index_one s 61 W)
  rcases ahead_index s.data.toList with ⟨i, h1, h2, h3⟩ | ⟨h2, h3⟩
  · rw [h3]
    rw [h2] at HI
    rw [← Lib.size_eq] at h1
    have c1 : (0 : Int) ≤ (i : Int) := by omega
    have c2 : (i : Int) ≤ (s.size : Int) := by omega
    obtain ⟨m, hm⟩ : ∃ m : Nat, m = i + 1 := ⟨_, rfl⟩
    have hwr : IntKind.i64.wrap ((i : Int) + 1) = (m : Int) := by
      have e : (m : Int) = (i : Int) + 1 := by omega
      rw [e]; exact IntWalk.i64_in _ ⟨by omega, by omega⟩
    have c3 : (0 : Int) ≤ (m : Int) := by omega
    have c4 : (m : Int) ≤ (s.size : Int) := by omega
    have HS := Lib.hid (show s.data.toList.take i = (s.extract 0 i).data.toList by simp [ByteArray.data_extract])
    clear h1 h2 h3 hm hs
    go_enter Tryz.func200, Tryz.ntmps200
    go_wp2_with (go_at_call 201; refine (HI.out _).mono ?_; rintro e w' ⟨rfl, rfl⟩)
    go_quiet (fail)
    go_wp2_with fail
    go_ret3
    exact ⟨_, _, _, rfl, by rw [HS.out]; rfl, _, rfl⟩
  · rw [h3]
    rw [h2] at HI
    clear h2 h3 hs
    go_enter Tryz.func200, Tryz.ntmps200
    go_wp2_with (go_at_call 201; refine (HI.out _).mono ?_; rintro e w' ⟨rfl, rfl⟩)
    go_ret3
    exact ⟨_, _, _, rfl, rfl, 0, rfl⟩
theorem cut_any (s : ByteArray) (w : World) (hs : s.size ≤ 1048576) :
    Calls Tryz.prog 199 #[.string s, .string ⟨#[61]⟩] w fun e w' => ∃ a b : ByteArray, ∃ f : Bool, e = .returned (.tuple #[.string a, .string b, .bool f]) ∧ (aheadT s.data.toList = if f then some a.data.toList else none) ∧ Below w.heap.size w w' := by
  have HI := Lib.hid (slcut_any s w hs)
  clear hs
  go_enter Tryz.func199, Tryz.ntmps199
  go_wp2_with (go_at_call 200; refine HI.out.mono ?_; rintro e w1 ⟨a, b, f, rfl, hf, n, rfl⟩; have HF := Lib.hid hf; clear hf)
  go_ret3
  exact ⟨_, _, _, rfl, HF.out, below_drew _ _ _⟩
end Go.Proofs.YtakceggnadagmaaGreatDoor

namespace Go.Proofs.YtakceggnadagmaaGreatDoor
open Go Go.RowKit GlyphMath LexMath TreeMath

theorem below_one (w : World) (o : Obj) : Below w.heap.size w (w.alloc o) := (Below.refl _ _).alloc (Nat.le_refl _) _
theorem below_two (w : World) (o p : Obj) : Below w.heap.size w ((w.alloc o).alloc p) := (below_one w o).alloc (by rw [World.size_alloc]; omega) _
/-- A part's variable. -/
def PC (w : World) (b : Nat) (kd : Int) (s o : ByteArray) (u : Value) (q : Bool) : Prop :=
  w.cell? ⟨b, 0, none⟩ = some (.int .i64 kd) ∧ w.cell? ⟨b, 1, none⟩ = some (.string s) ∧ w.cell? ⟨b, 2, none⟩ = some (.string o) ∧ w.cell? ⟨b, 3, none⟩ = some u ∧ w.cell? ⟨b, 4, none⟩ = some (.bool q)
theorem PC.new (w : World) (kd : Int) (s o : ByteArray) (u : Value) (q : Bool) (t : TypeId) : PC (w.alloc (.cells #[.int .i64 kd, .string s, .string o, u, .bool q] t)) w.heap.size kd s o u q := by
  have h := heap_alloc_new w (.cells #[.int .i64 kd, .string s, .string o, u, .bool q] t)
  exact ⟨cell_plain h 0, cell_plain h 1, cell_plain h 2, cell_plain h 3, cell_plain h 4⟩
theorem PC.below {w w' : World} {b : Nat} {kd : Int} {s o : ByteArray} {u : Value} {q : Bool} (h : PC w b kd s o u q) (hb : Below w.heap.size w w') : PC w' b kd s o u q := by
  have lt : ∀ {a : Addr} {v : Value}, w.cell? a = some v → a.block < w.heap.size := fun h => World.block_lt_of_cell? w _ h
  obtain ⟨h0, h1, h2, h3, h4⟩ := h
  exact ⟨(hb.cell (lt h0)).trans h0, (hb.cell (lt h1)).trans h1, (hb.cell (lt h2)).trans h2, (hb.cell (lt h3)).trans h3, (hb.cell (lt h4)).trans h4⟩
theorem int_ne {a b : Int} (h : a ≠ b) : (a == b) = false := beq_eq_false_iff_ne.2 h

set_option maxRecDepth 100000 in
theorem isBare_any (p : Pt) (u : Value) (w : World) :
    Calls Tryz.prog 160 #[partV p u] w fun e w' => e = .returned (.bool (bareT p)) ∧ Below w.heap.size w w' := by
  obtain ⟨kd, tx, op, wd, q⟩ := p
  have HB := Lib.hid (fun o => below_one w o)
  by_cases h : kd = 1
  · subst h
    have HT := Lib.hid (show bareT ⟨1, tx, op, wd, q⟩ = !q from rfl)
    rw [HT.out]
    unfold partV txt
    go_enter Tryz.func160, Tryz.ntmps160
    go_wp2_with fail
    go_ret
    exact ⟨rfl, HB.out _⟩
  · have h1 := int_ne h
    have HT := Lib.hid (show bareT ⟨kd, tx, op, wd, q⟩ = false by unfold bareT; simp only [h1, Bool.false_and])
    rw [HT.out]
    clear h
    unfold partV txt
    go_enter Tryz.func160, Tryz.ntmps160
    go_wp2_with fail
    go_ret
    exact ⟨rfl, HB.out _⟩

end Go.Proofs.YtakceggnadagmaaGreatDoor

namespace Go.Proofs.YtakceggnadagmaaGreatDoor
open Go Go.RowKit GlyphMath LexMath TreeMath

theorem reck_low (c : UInt8) (h : c.toNat < 128) : reckT c = (moreR (c.toNat : Int) || inSet reckB c.toNat) := by
  unfold reckT inSet
  rw [decide_eq_true h, Bool.true_and]
  simp
theorem reck_high (c : UInt8) (h : 128 ≤ c.toNat) : reckT c = false := by
  unfold reckT
  rw [not_in h (by decide), Bool.or_false]
  unfold moreR firstR
  simp
  omega
theorem high_more (r : Nat) (h : 128 ≤ r) : moreR (r : Int) = false := by
  unfold moreR firstR
  simp
  omega

end Go.Proofs.YtakceggnadagmaaGreatDoor

namespace Go.Proofs.YtakceggnadagmaaGreatDoor
open Go Go.RowKit GlyphMath LexMath TreeMath

theorem empty_len {α : Type} (l : List α) : ((l.length : Int) == 0) = l.isEmpty := by
  cases l with
  | nil => rfl
  | cons a r =>
    show (((a :: r).length : Int) == 0) = false
    exact int_ne (by rw [List.length_cons]; omega)
theorem list_ne {l k : List UInt8} (h : l ≠ k) : (l == k) = false := beq_eq_false_iff_ne.2 h
theorem nil_ne {l : List UInt8} (h : l ≠ []) : l.isEmpty = false := by
  cases l with
  | nil => exact absurd rfl h
  | cons _ _ => rfl

end Go.Proofs.YtakceggnadagmaaGreatDoor

namespace Go.Proofs.YtakceggnadagmaaGreatDoor
open Go Go.RowKit GlyphMath LexMath TreeMath

end Go.Proofs.YtakceggnadagmaaGreatDoor

namespace Go.Proofs.YtakceggnadagmaaGreatDoor
open Go

section
variable {P : Program} {ops : Array Oper} {Q : Exit → Act → World → Prop} {md : Region.Mode} {S : World → Prop}
/-- An operation that is wanted, and reads only, is taken first: what it leaves stands in its slot. -/
theorem takeW {i k : Nat} {oi : Oper} {v : Value} {fuel : Nat} {listed : Array Bool} {a : Act} {w : World} (hi : ops[i]? = some oi) (hk : oi.dst = some k)
    (hs : Region.noSelect ops = true) (hf : Region.free md ops listed i = true) (hr : (Region.ready md ops listed).contains i = true)
    (hQ : ∀ c a w, Q (.panic c) (a.put oi.dst v) w → Q (.panic c) a w) (hw : Region.wanted oi (yielded ops a.tmps) = true)
    (hy : ∀ w, S w → (execOp a.eval oi).run P w = .ok (.value v) w) (hS : S w)
    (h : wpAnyH P md ops Q S fuel (listed.setIfInBounds i true) { a with tmps := a.tmps.setIfInBounds k v } w) : wpAnyH P md ops Q S (fuel + 1) listed a w :=
  wpAnyH_take hi hs hf hr hQ (Or.inl ⟨hw, hy⟩) hS (by rw [hk]; exact h)
/-- An operation that is not wanted is passed by. -/
theorem takeN {i k : Nat} {oi : Oper} {fuel : Nat} {listed : Array Bool} {a : Act} {w : World} (hi : ops[i]? = some oi) (hk : oi.dst = some k)
    (hs : Region.noSelect ops = true) (hf : Region.free md ops listed i = true) (hr : (Region.ready md ops listed).contains i = true)
    (hQ : ∀ c a w, Q (.panic c) (a.put oi.dst undef) w → Q (.panic c) a w) (hw : Region.wanted oi (yielded ops a.tmps) = false) (hS : S w)
    (h : wpAnyH P md ops Q S fuel (listed.setIfInBounds i true) { a with tmps := a.tmps.setIfInBounds k undef } w) : wpAnyH P md ops Q S (fuel + 1) listed a w :=
  wpAnyH_take hi hs hf hr hQ (Or.inr ⟨hw, rfl⟩) hS (by rw [hk]; exact h)
end
end Go.Proofs.YtakceggnadagmaaGreatDoor

namespace Go.Proofs.YtakceggnadagmaaGreatDoor
open Go Go.RowKit GlyphMath LexMath TreeMath

/-- What stands ahead of a place. -/
def prevO (ps : List Pt) (j : Nat) : Option Pt := match j with
  | 0 => none
  | m + 1 => ps[m]?
theorem drop_get {α : Type} {l : List α} {j : Nat} {q : α} (h : l[j]? = some q) : l.drop j = q :: l.drop (j + 1) := by
  obtain ⟨hj, rfl⟩ := List.getElem?_eq_some_iff.1 h
  exact List.drop_eq_getElem_cons hj

theorem below_drew1 (B : Nat) (w : World) : Below B w w.drew := ⟨rfl, rfl, rfl, Nat.le_refl _, fun _ _ => rfl⟩

end Go.Proofs.YtakceggnadagmaaGreatDoor

namespace Go.Proofs.YtakceggnadagmaaGreatDoor
open Go Go.RowKit GlyphMath LexMath TreeMath

theorem word_cell (w : World) (v : Value) (t : TypeId) : (w.alloc (.cells #[v] t)).cell? ⟨w.heap.size, 0, none⟩ = some v := cell_plain (heap_alloc_new w _) 0
theorem cell_below {w w1 : World} {a : Addr} {v : Value} (h : w.cell? a = some v) (hb : Below w.heap.size w w1) : w1.cell? a = some v := (hb.cell (World.block_lt_of_cell? w _ h)).trans h

/-- What a word's first part gives. -/
theorem first_cells {w : World} {v : Value} {q : Pt} {r : List Pt} (hv : PsAt w v (q :: r)) : ∃ b o c u, v = .slice (some ⟨b, o, none⟩) (r.length + 1) c ∧ (∃ up uc, u = .slice up q.word.length uc) ∧
    w.cell? ⟨b, o, none⟩ = some (.int .i64 q.kind) ∧ w.cell? ⟨b, o + 1, none⟩ = some (.string (T q.text)) ∧ w.cell? ⟨b, o + 2, none⟩ = some (.string (T q.op)) ∧ w.cell? ⟨b, o + 3, none⟩ = some u ∧ w.cell? ⟨b, o + 4, none⟩ = some (.bool q.q) := by
  obtain ⟨p, c, rfl, -, hat⟩ := hv.is
  obtain ⟨u, ⟨b, o, rfl, hc⟩, hu⟩ := hat 0 q rfl
  obtain ⟨up, uc, hup, -⟩ := hu.is
  refine ⟨b, o, c, u, rfl, ⟨up, uc, hup⟩, ?_, ?_, ?_, ?_, ?_⟩
  · simpa using hc 0 _ rfl
  · have := hc 1 _ rfl; rwa [show o + 0 * 5 + 1 = o + 1 by omega] at this
  · have := hc 2 _ rfl; rwa [show o + 0 * 5 + 2 = o + 2 by omega] at this
  · have := hc 3 _ rfl; rwa [show o + 0 * 5 + 3 = o + 3 by omega] at this
  · have := hc 4 _ rfl; rwa [show o + 0 * 5 + 4 = o + 4 by omega] at this

end Go.Proofs.YtakceggnadagmaaGreatDoor

namespace Go.Proofs.YtakceggnadagmaaGreatDoor
open Go Go.RowKit GlyphMath LexMath TreeMath

set_option maxRecDepth 100000 in
theorem plain_any (ps : List Pt) (v : Value) (w : World) (hv : PsAt w v ps) :
    Calls Tryz.prog 131 #[wordV v] w fun e w' => e = .returned (.tuple #[.string (T ((plainT ps).getD [])), .bool (plainT ps).isSome]) ∧ Below w.heap.size w w' := by
  have HB := Lib.hid (fun o => below_one w o)
  unfold wordV
  by_cases h1 : ∃ q, ps = [q]
  · obtain ⟨q, rfl⟩ := h1
    obtain ⟨b, o, c, u, rfl, ⟨up, uc, rfl⟩, c0, c1, c2, c3, c4⟩ := first_cells hv
    have HI := Lib.hid (fun W => isBare_any q (.slice up q.word.length uc) W)
    obtain ⟨s, hs⟩ : ∃ s, T q.text = s := ⟨_, rfl⟩
    obtain ⟨s2, hs2⟩ : ∃ s, T q.op = s := ⟨_, rfl⟩
    obtain ⟨kd, hkd⟩ : ∃ s, q.kind = s := ⟨_, rfl⟩
    obtain ⟨qq, hqq⟩ : ∃ s, q.q = s := ⟨_, rfl⟩
    obtain ⟨ul, hul⟩ : ∃ s, q.word.length = s := ⟨_, rfl⟩
    have HI := Lib.hid (show ∀ W, Calls Tryz.prog 160 #[.agg #[.int .i64 kd, .string s, .string s2, .slice up ul uc, .bool qq]] W fun e w' => e = .returned (.bool (bareT q)) ∧ Below W.heap.size W w' from fun W => by rw [← hs, ← hs2, ← hkd, ← hqq, ← hul]; exact HI.out W)
    rw [hs] at c1
    rw [hs2] at c2
    rw [hkd] at c0
    rw [hqq] at c4
    rw [hul] at c3
    obtain ⟨B, hBB⟩ : ∃ B, bareT q = B := ⟨_, rfl⟩
    rw [hBB] at HI
    have HT := Lib.hid (show T ((plainT [q]).getD []) = (if B = true then s else ⟨#[]⟩) ∧ (plainT [q]).isSome = B from by
      rw [← hBB, ← hs]
      show T ((if bareT q = true then some q.text else none).getD []) = _ ∧ (if bareT q = true then some q.text else none).isSome = _
      cases bareT q <;> exact ⟨rfl, rfl⟩)
    rw [HT.out.1, HT.out.2]
    have d0 := fun x => cell_below c0 (HB.out x)
    have d1 := fun x => cell_below c1 (HB.out x)
    have d2 := fun x => cell_below c2 (HB.out x)
    have d3 := fun x => cell_below c3 (HB.out x)
    have d4 := fun x => cell_below c4 (HB.out x)
    clear hv hs hs2 hkd hqq hul hBB
    show Calls _ _ #[.agg #[.slice (some ⟨b, o, none⟩) 1 c]] _ _
    cases B with
    | true =>
      go_enter Tryz.func131, Tryz.ntmps131
      go_wp2_with (go_at_call 160; refine (HI.out _).mono ?_; rintro e w1 ⟨rfl, hb⟩; have hx := (hb.cell (World.block_lt_of_cell? _ _ (word_cell w (.slice (some ⟨b, o, none⟩) 1 c) 70))).trans (word_cell w (.slice (some ⟨b, o, none⟩) 1 c) 70); have HB1 := Lib.hid ((HB.out _).trans (hb.mono (HB.out _).size)); have hx1 := cell_below c1 HB1.out; clear hb)
      go_ret2
      exact ⟨rfl, HB1.out⟩
    | false =>
      go_enter Tryz.func131, Tryz.ntmps131
      go_wp2_with (go_at_call 160; refine (HI.out _).mono ?_; rintro e w1 ⟨rfl, hb⟩; have HB1 := Lib.hid ((HB.out _).trans (hb.mono (HB.out _).size)); clear hb)
      go_ret2
      exact ⟨rfl, HB1.out⟩
  · have hp : plainT ps = none := by
      match ps, h1 with
      | [], _ => rfl
      | [q], h => exact absurd ⟨q, rfl⟩ h
      | _ :: _ :: _, _ => rfl
    obtain ⟨p, c, rfl, -, -⟩ := hv.is
    have hl : ¬ ps.length = 1 := fun e => h1 (by
      match ps, e with
      | [q], _ => exact ⟨q, rfl⟩)
    rw [hp]
    obtain ⟨L, hL⟩ : ∃ L, ps.length = L := ⟨_, rfl⟩
    rw [hL] at hl ⊢
    have hne : ((L : Int) != 1) = true := by
      have : (L : Int) ≠ 1 := by omega
      simpa using this
    clear hv h1 hp hL hl
    go_enter Tryz.func131, Tryz.ntmps131
    go_wp2_with fail
    go_ret2
    exact ⟨rfl, HB.out _⟩

theorem hash_prefix (l : List UInt8) : Lib.hasPrefix (T l).data.toList (⟨#[35]⟩ : ByteArray).data.toList = hashT l := by
  show Lib.hasPrefix l [35] = hashT l
  cases l with
  | nil => rfl
  | cons c r =>
    show _ = (c == 35)
    unfold Lib.hasPrefix
    simp only [List.isPrefixOf, Bool.and_true]
    exact BEq.comm

theorem open_small {ps : List Pt} (hs : Small ps) : (T (openT ps)).size ≤ 1048576 := by
  rw [T_size]
  cases ps with
  | nil => exact Nat.zero_le _
  | cons q r =>
    show (if bareT q = true then q.text else []).length ≤ _
    split
    · exact (hs.get (by simp)).1
    · exact Nat.zero_le _
end Go.Proofs.YtakceggnadagmaaGreatDoor

namespace Go.Proofs.YtakceggnadagmaaGreatDoor
open Go Go.RowKit GlyphMath LexMath TreeMath

/-- A node that was handed over. -/
def nodeV (n : Nd) (kv wv pv av rv : Value) : Value := .agg #[txt n.op, txt n.name, kv, wv, pv, av, rv]

end Go.Proofs.YtakceggnadagmaaGreatDoor

namespace Go.Proofs.YtakceggnadagmaaGreatDoor
open Go Go.RowKit GlyphMath LexMath TreeMath

theorem SlAt.cell {w : World} {size : Nat} {α : Type} {P : α → List Value → Prop} {v : Value} {l : List α} (h : SlAt w size α P v l) {b o n c : Nat} (hv : v = .slice (some ⟨b, o, none⟩) n c) {k : Nat} {x : α} (hk : l[k]? = some x) :
    ∃ cs, P x cs ∧ ∀ i u, cs[i]? = some u → w.cell? ⟨b, o + k * size + i, none⟩ = some u := by
  obtain ⟨⟨p, c', hv', hx⟩, -⟩ := h
  obtain ⟨cs, ⟨b', o', hp, hc⟩, hP⟩ := hx k x hk
  subst hp
  rw [hv] at hv'
  simp only [Value.slice.injEq, Option.some.injEq, Addr.mk.injEq, and_true] at hv'
  obtain ⟨⟨rfl, rfl⟩, -⟩ := hv'
  exact ⟨cs, hP, hc⟩
/-- A row's pointer, if something stands in it. -/
theorem SlAt.ptr {w : World} {size : Nat} {α : Type} {P : α → List Value → Prop} {p : Option Addr} {n c : Nat} {l : List α} (h : SlAt w size α P (.slice p n c) l) {k : Nat} {x : α} (hk : l[k]? = some x) : ∃ b o, p = some ⟨b, o, none⟩ := by
  obtain ⟨⟨p', c', hv', hx⟩, -⟩ := h
  obtain ⟨cs, ⟨b', o', hp, hc⟩, hP⟩ := hx k x hk
  subst hp
  simp only [Value.slice.injEq] at hv'
  exact ⟨_, _, hv'.1⟩
theorem WsAt.is {w : World} {v : Value} {l : List (List Pt)} (h : WsAt w v l) : ∃ p c, v = .slice p l.length c := by
  obtain ⟨⟨p, c, hv, -⟩, -⟩ := h
  exact ⟨p, c, hv⟩
theorem PatsAt.is {w : World} {v : Value} {l : List (List (List Pt))} (h : PatsAt w v l) : ∃ p c, v = .slice p l.length c := by
  obtain ⟨⟨p, c, hv, -⟩, -⟩ := h
  exact ⟨p, c, hv⟩
theorem AsAt.is {w : World} {v : Value} {l : List (List UInt8 × List Pt)} (h : AsAt w v l) : ∃ p c, v = .slice p l.length c := by
  obtain ⟨⟨p, c, hv, -⟩, -⟩ := h
  exact ⟨p, c, hv⟩
theorem KidsAt.is {w : World} {v : Value} {l : List Int} (h : KidsAt w v l) : ∃ p c, v = .slice p l.length c := by
  obtain ⟨⟨p, c, hv, -⟩, -⟩ := h
  exact ⟨p, c, hv⟩
theorem NsAt.is {w : World} {v : Value} {l : List Nd} (h : NsAt w v l) : ∃ p c, v = .slice p l.length c := by
  obtain ⟨⟨p, c, hv, -⟩, -⟩ := h
  exact ⟨p, c, hv⟩

end Go.Proofs.YtakceggnadagmaaGreatDoor

namespace Go.Proofs.YtakceggnadagmaaGreatDoor
open Go Go.RowKit GlyphMath LexMath TreeMath

set_option maxHeartbeats 1000000 in
theorem reserved_any (l : List UInt8) (w : World) :
    Calls Tryz.prog 180 #[.string (T l)] w fun e w' => e = .returned (.bool (reservedT l)) ∧ w = w' := by
  obtain ⟨o, ho⟩ : ∃ o, T l = o := ⟨_, rfl⟩
  have hl : o.toList = l := by rw [← ho, Lib.toList_data]
  rw [ho, ← hl]
  clear ho hl
  obtain ⟨R, hR⟩ : ∃ R, reservedT o.toList = R := ⟨_, rfl⟩
  have HR := Lib.hid hR
  rw [hR]
  clear hR
  go_enter Tryz.func180, Tryz.ntmps180
  go_wp2_with fail
  all_goals
    go_ret
    refine ⟨ret_bool ?_, rfl⟩
    rw [← HR.out]
    first
      | (simp only [reservedT, reservedL, List.contains_cons, List.contains_nil, Bool.or_false, Bool.true_or, Bool.false_or, *]; done)
      | (simp_all; done)

/-- How many there may be. -/
def countV (a b : Int) : Value := .agg #[.int .i64 a, .int .i64 b]
/-- A shape that was handed over. -/
def shapeV (s : Sh) : Value := .agg #[txt s.op, .int .i64 s.k0, .int .i64 s.k1, .int .i64 s.w0, .int .i64 s.w1, .bool s.name, .bool s.pats, .bool s.assigns, .bool s.redirs]
theorem nat_beq (a b : Nat) : ((a : Int) == (b : Int)) = (a == b) := by
  by_cases h : a = b
  · subst h; simp
  · have h1 : (a == b) = false := by simpa using h
    rw [h1]
    exact int_ne (by omega)

/-- The rows of a node. -/
def NV (n : Nd) (kp wp pp ap rp : Option Addr) (kc wc pc ac rc : Nat) : Value := nodeV n (.slice kp n.kids.length kc) (.slice wp n.words.length wc) (.slice pp n.pats.length pc) (.slice ap n.assigns.length ac) (.slice rp n.redirs.length rc)

/-- Two variables side by side. -/
def SC (W : World) (b : Nat) (cs ds : List Value) : Prop := (∀ i u, cs[i]? = some u → W.cell? ⟨b, i, none⟩ = some u) ∧ (∀ i u, ds[i]? = some u → W.cell? ⟨b + 1, i, none⟩ = some u)
theorem SC.below {w w' : World} {b : Nat} {cs ds : List Value} (h : SC w b cs ds) (hb : Below w.heap.size w w') : SC w' b cs ds := ⟨fun i u hu => cell_below (h.1 i u hu) hb, fun i u hu => cell_below (h.2 i u hu) hb⟩
theorem SC.new (w : World) (cs ds : List Value) (t s : TypeId) : SC ((w.alloc (.cells cs.toArray t)).alloc (.cells ds.toArray s)) w.heap.size cs ds := by
  have h1 := heap_alloc_new w (.cells cs.toArray t)
  have h2 := heap_alloc_new (w.alloc (.cells cs.toArray t)) (.cells ds.toArray s)
  refine ⟨fun i u hu => ?_, fun i u hu => ?_⟩
  · refine cell_below ?_ (below_one _ _)
    rw [cell_plain h1]
    simpa using hu
  · rw [World.size_alloc] at h2
    rw [cell_plain h2]
    simpa using hu
end Go.Proofs.YtakceggnadagmaaGreatDoor
