/-
  Proved: contracts of the statements' own Words, and of their Texts at two rows of the same texts. Conditions: at most 100000 bytes; as many texts as a row may have.
-/
import Derived.Test.YtfepkhlifpbkfaaSpWords
import Derived.Test.YtfepkhlifpbkfaaGlyphRBlank
namespace Go.Proofs.Ytfepkhlifpbkfaa
open Go Go.RowKit GlyphMath SpMath

def fromI : Option Nat → Int
  | some f => (f : Int)
  | none => -1
/-- What the statements' own loop has at a place. -/
def rSt (s : ByteArray) (k : Nat) : List ByteArray × Int := if k ≤ s.size then ((wAt s k).1, fromI (wAt s k).2) else (wordsM s, -1)
theorem rSt_in {s : ByteArray} {k : Nat} (h : k ≤ s.size) : rSt s k = ((wAt s k).1, fromI (wAt s k).2) := if_pos h
theorem rSt_end (s : ByteArray) : rSt s (s.size + 1) = (wordsM s, -1) := if_neg (by omega)
theorem get_byte (s : ByteArray) (k : Nat) (h : k < s.size) : s.get! k = s[k]'h := by
  rw [← Lib.getD_get!', List.getD_eq_getElem?_getD, at_byte s k h]
  rfl
set_option maxRecDepth 8000 in
set_option maxHeartbeats 2000000 in
theorem rwords_any (s : ByteArray) (w : World) (hs : s.size ≤ 100000) :
    Calls Try.prog 10 #[.string s] w fun e w' => ∃ v, e = .returned v ∧ Rd 1 sC w' v (wordsM s) ∧ Below w.heap.size w w' := by
  have HS := Lib.hid hs
  obtain ⟨i0, hi1, hi2, hi3, hi4⟩ := info_parts infoStr
  have HI := Lib.hid (And.intro hi1 (And.intro hi2 (And.intro hi3 hi4)))
  clear hs hi1 hi2 hi3 hi4
  go_enter Try.func10, Try.ntmps10
  go_wp2_with fail
  go_loopw [3, 4, 5] (fun v fr i wr => ∃ k : Nat, i = .int .i64 (k : Int) ∧ k ≤ s.size + 1 ∧ fr = .int .i64 (rSt s k).2 ∧ RowS wr w.heap.size v (rSt s k).1 ∧ Below w.heap.size w wr) (fun _ _ i _ => s.size + 1 - (intOf i).toNat)
  case atStart => exact ⟨0, rfl, Nat.zero_le _, rfl, World.ownsRow_nil _ _ _ _, Below.refl _ _⟩
  case round =>
    obtain ⟨k, rfl, hk, rfl, hrow, hb⟩ := hrel
    have hk1 : (k : Int) + 1 ≤ 9223372036854775807 := by have := HS.out; omega
    have c0 : (0 : Int) ≤ (k : Int) := by omega
    by_cases hle : k ≤ s.size
    · rw [rSt_in hle] at hrow ⊢
      have hwl := wAt_len s k
      obtain ⟨L, hL⟩ : ∃ L, (wAt s k).1 = L := ⟨_, rfl⟩
      obtain ⟨O, hO⟩ : ∃ O, (wAt s k).2 = O := ⟨_, rfl⟩
      rw [hL, hO] at hwl
      rw [hL] at hrow
      rw [hO]
      obtain ⟨N, hN⟩ : ∃ N, L.length = N := ⟨_, rfl⟩
      have hN1 : N ≤ 100000 := by have := HS.out; omega
      have HMX := Lib.hid (show N + 1 ≤ maxLen ∧ (N + 1) * 16 ≤ 140737488355328 from by unfold maxLen; omega)
      have HNN := Lib.hid hN
      have HH := Lib.hid (And.intro hrow hb)
      have hleI : (k : Int) ≤ (s.size : Int) := by omega
      have hfc : ∀ f, O = some f → (0 : Int) ≤ (f : Int) ∧ (f : Int) ≤ (k : Int) ∧ ¬ (f : Int) < 0 := fun f h => by have := hwl.2 f h; omega
      have HFC := Lib.hid hfc
      have HLE := Lib.hid hle
      by_cases hlt : k < s.size
      · have hltI : (k : Int) < (s.size : Int) := by omega
        have HST := Lib.hid (show rSt s (k + 1) = ((wAt s (k + 1)).1, fromI (wAt s (k + 1)).2) from rSt_in hlt)
        have hwr : IntKind.i32.wrap ((s[k]'hlt).toNat : Int) = ((s[k]'hlt).toNat : Int) := by
          have := (s[k]'hlt).toNat_lt
          exact IntWalk.i32_in _ ⟨by omega, by omega⟩
        have HBK := Lib.hid (fun W => rblank_any ((s[k]'hlt).toNat : Int) W)
        obtain ⟨BK, hBK⟩ : ∃ BK, blankR ((s[k]'hlt).toNat : Int) = BK := ⟨_, rfl⟩
        rw [hBK] at HBK
        have hw : wAt s (k + 1) = wStep s (L, O) k := by rw [wAt_succ, ← hL, ← hO]
        unfold wStep at hw
        rw [get_byte s k hlt, hBK] at hw
        have HW0 := Lib.hid hw
        clear hw hBK hrow hb hwl hL hO hN hN1 hfc hle
        cases BK
        · cases O with
          | none =>
            have HW := Lib.hid (show wAt s (k + 1) = (L, some k) from HW0.out)
            have g0 : fromI none = -1 := rfl
            clear HW0
            go_wp2_with (go_at_call 15; (with_reducible refine (HBK.out _).mono ?_); rintro e w3 ⟨rfl, rfl⟩)
            go_roundw
            case rel => exact ⟨k + 1, by simp, by omega, by rw [HST.out, HW.out]; rfl, by rw [HST.out, HW.out]; exact HH.out.1, HH.out.2⟩
            case measure => simp [intOf]; omega
          | some f =>
            have HW := Lib.hid (show wAt s (k + 1) = (L, some f) from HW0.out)
            obtain ⟨z, g0⟩ : ∃ z : Int, fromI (some f) = z := ⟨_, rfl⟩
            have g3 : decide (z < 0) = false := by rw [← g0]; exact decide_eq_false (HFC.out f rfl).2.2
            have HG0 := Lib.hid g0
            rw [g0]
            clear HW0 g0
            go_wp2_with (go_at_call 15; (with_reducible refine (HBK.out _).mono ?_); rintro e w3 ⟨rfl, rfl⟩)
            go_roundw
            case rel => exact ⟨k + 1, by simp, by omega, by rw [HST.out, HW.out, ← HG0.out], by rw [HST.out, HW.out]; exact HH.out.1, HH.out.2⟩
            case measure => simp [intOf]; omega
        · cases O with
          | none =>
            have HW := Lib.hid (show wAt s (k + 1) = (L, none) from HW0.out)
            have g0 : fromI none = -1 := rfl
            clear HW0
            go_wp2_with (go_at_call 15; (with_reducible refine (HBK.out _).mono ?_); rintro e w3 ⟨rfl, rfl⟩)
            go_roundw
            case rel => exact ⟨k + 1, by simp, by omega, by rw [HST.out, HW.out]; rfl, by rw [HST.out, HW.out]; exact HH.out.1, HH.out.2⟩
            case measure => simp [intOf]; omega
          | some f =>
            have HW := Lib.hid (show wAt s (k + 1) = (L ++ [s.extract f k], none) from HW0.out)
            have g0 : fromI (some f) = (f : Int) := rfl
            obtain ⟨g1, g2, g3⟩ := HFC.out f rfl
            obtain ⟨E, hE⟩ : ∃ E, s.extract f k = E := ⟨_, rfl⟩
            have CO := Lib.hid (show (wr.alloc (.cells #[.string E] 9)).ownsRow w.heap.size 9 1 u3 N (L.flatMap sC) from by
              have := HH.out.1.alloc (.cells #[.string E] 9)
              unfold RowS at this
              rwa [HNN.out] at this)
            have C1 := Lib.hid (str_news wr E)
            have C2 := Lib.hid (str_one E)
            have C5 := Lib.hid (show w.heap.size ≤ (wr.alloc (.cells #[.string E] 9)).heap.size from by have := HH.out.2.size; simp; omega)
            rw [hE] at HW
            clear HW0
            go_wp2_with (first
              | (go_at_call 15; (with_reducible refine (HBK.out _).mono ?_); rintro e w3 ⟨rfl, rfl⟩)
              | (at_builtin; refine wpList_append_own _ rfl _ _ 25 rfl w.heap.size 9 i0 (.string ByteArray.empty) 1 16 Try.underlying25 HI.out.1 HI.out.2.1 HI.out.2.2.1 HI.out.2.2.2 rfl (by decide) u3 N (L.flatMap sC) rfl CO.out ⟨wr.heap.size, 0, none⟩ 1 1 [.string E] rfl rfl C1.out C2.out HMX.out.1 HMX.out.2 C5.out ?_; intro v' w3 hown3 hg3 hn3; clear hn3; have HO3 := Lib.hid hown3; have HG3 := Lib.hid hg3; clear hown3 hg3))
            go_roundw
            case rel => exact ⟨k + 1, by simp, by omega, by rw [HST.out, HW.out]; rfl, by rw [HST.out, HW.out]; exact RowS.add HNN.out HO3.out, HH.out.2.trans (sp_below HH.out.2.size (grown_drew HG3.out) (fun k e => (World.ownsRow.lt HH.out.1 k e).1))⟩
            case measure => simp [intOf]; omega
      · obtain rfl : k = s.size := by omega
        have hltI : ¬ (s.size : Int) < (s.size : Int) := by omega
        have HST := Lib.hid (rSt_end s)
        have HW := Lib.hid (show wordsM s = wEnd s L O by unfold wordsM; rw [hL, hO])
        clear hrow hb hwl hL hO hN hN1 hfc hle
        cases O with
        | none =>
          have g0 : fromI none = -1 := rfl
          go_wp2_with fail
          go_roundw
          case rel => exact ⟨s.size + 1, by simp, Nat.le_refl _, by rw [HST.out], by rw [HST.out, HW.out]; exact HH.out.1, HH.out.2⟩
          case measure => simp [intOf]
        | some f =>
          have g0 : fromI (some f) = (f : Int) := rfl
          obtain ⟨g1, g2, g3⟩ := HFC.out f rfl
          obtain ⟨E, hE⟩ : ∃ E, s.extract f s.size = E := ⟨_, rfl⟩
          have HEE := Lib.hid hE
          have CO := Lib.hid (show (wr.alloc (.cells #[.string E] 9)).ownsRow w.heap.size 9 1 u3 N (L.flatMap sC) from by
            have := HH.out.1.alloc (.cells #[.string E] 9)
            unfold RowS at this
            rwa [HNN.out] at this)
          have C1 := Lib.hid (str_news wr E)
          have C2 := Lib.hid (str_one E)
          have C5 := Lib.hid (show w.heap.size ≤ (wr.alloc (.cells #[.string E] 9)).heap.size from by have := HH.out.2.size; simp; omega)
          go_wp2_with (at_builtin; refine wpList_append_own _ rfl _ _ 25 rfl w.heap.size 9 i0 (.string ByteArray.empty) 1 16 Try.underlying25 HI.out.1 HI.out.2.1 HI.out.2.2.1 HI.out.2.2.2 rfl (by decide) u3 N (L.flatMap sC) rfl CO.out ⟨wr.heap.size, 0, none⟩ 1 1 [.string E] rfl rfl C1.out C2.out HMX.out.1 HMX.out.2 C5.out ?_; intro v' w3 hown3 hg3 hn3; clear hn3; have HO3 := Lib.hid hown3; have HG3 := Lib.hid hg3; clear hown3 hg3)
          go_roundw
          case rel => exact ⟨s.size + 1, by simp, Nat.le_refl _, by rw [HST.out], by rw [HST.out, HW.out]; exact RowS.add HNN.out (by rw [HEE.out]; exact HO3.out), HH.out.2.trans (sp_below HH.out.2.size (grown_drew HG3.out) (fun k e => (World.ownsRow.lt HH.out.1 k e).1))⟩
          case measure => simp [intOf]
    · have hend : rSt s k = (wordsM s, -1) := if_neg hle
      rw [hend] at hrow ⊢
      have hltI : ¬ (k : Int) ≤ (s.size : Int) := by omega
      have HH := Lib.hid (And.intro hrow hb)
      clear hrow hb hend hle hk
      go_wp2_with fail
      go_ret
      exact ⟨_, rfl, Rd.of_own sE HH.out.1, HH.out.2⟩

set_option maxHeartbeats 1000000 in
/-- Two rows of the same texts are one. -/
theorem rtexts_any (a : List ByteArray) (va vb : Value) (w : World) (ha : Rd 1 sC w va a) (hb : Rd 1 sC w vb a) :
    Calls Try.prog 8 #[va, vb] w fun e w' => e = .returned (.bool true) ∧ Below w.heap.size w w' := by
  obtain ⟨p1, c1, rfl⟩ := ha.shape
  obtain ⟨p2, c2, rfl⟩ := hb.shape
  have HA := Lib.hid ha
  have HB := Lib.hid hb
  obtain ⟨N, hN⟩ : ∃ N, a.length = N := ⟨_, rfl⟩
  have HN := Lib.hid hN
  have hmb := hb.few
  rw [hN] at hmb ⊢
  unfold maxLen at hmb
  clear ha hb hN
  go_enter Try.func8, Try.ntmps8
  go_wp2_with fail
  go_loopw [5] (fun v wr => ∃ i : Nat, v = .int .i64 (i : Int) ∧ i ≤ N ∧ Below w.heap.size w wr) (fun v _ => N - (intOf v).toNat)
  case atStart => exact ⟨0, rfl, by omega, Below.refl _ _⟩
  case round =>
    obtain ⟨i, rfl, hi, hbw⟩ := hrel
    have HW := Lib.hid hbw
    clear hbw
    by_cases hlt : i < N
    · obtain ⟨x, hx⟩ : ∃ x, a[i]? = some x := ⟨_, List.getElem?_eq_getElem (by rw [HN.out]; omega)⟩
      obtain ⟨b1, o1, rfl, h1⟩ := HA.out.get hx
      obtain ⟨b2, o2, rfl, h2⟩ := HB.out.get hx
      have e1 := h1 i x hx 0 _ rfl
      have e2 := h2 i x hx 0 _ rfl
      rw [Nat.mul_one, Nat.add_zero] at e1 e2
      have d1 := (World.cell?_of_block (HW.out.block _ (World.block_lt_of_cell? w _ e1))).trans e1
      have d2 := (World.cell?_of_block (HW.out.block _ (World.block_lt_of_cell? w _ e2))).trans e2
      have hI : (i : Int) < (N : Int) := by omega
      have hi9 : (i : Int) + 1 ≤ 9223372036854775807 := by omega
      clear e1 e2 h1 h2 hx
      go_wp2_with fail
      go_quiet (fail)
      all_goals
        go_wp2_with fail
        go_roundw
        case rel => exact ⟨i + 1, by simp, by omega, below_drewN HW.out _⟩
        case measure => simp [intOf]; omega
    · have hI : ¬ (i : Int) < (N : Int) := by omega
      go_wp2_with fail
      go_ret
      exact ⟨rfl, HW.out⟩
end Go.Proofs.Ytfepkhlifpbkfaa
