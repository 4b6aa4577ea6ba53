/-
  Proved: how the statements' own reckoner lies in memory; contracts of its skip. Conditions: as each says.
-/
import Derived.Test.YtlgbfhjbfolibaaDoorArTrim
import Derived.Test.YtlgbfhjbfolibaaDoorArTok
import Derived.Test.YtlgbfhjbfolibaaDoorGlyphRBlank
import Derived.BigQuiet
import Derived.Deep.QuietTactic
import Derived.Deep.LoopGhost
import Derived.LoopTactic
namespace Go.Proofs.YtlgbfhjbfolibaaDoor
open Go Go.RowKit ArMath GlyphMath

/-- The statements' own reckoner: its text, what is left of it, no expr?, no number? -/
abbrev RfB (w : World) (X : Nat) (T : ByteArray) (i : Int) (vv : Value) (f m : Bool) : Prop := w.heap[X]? = some (.cells #[.string T, .int .i64 i, vv, .bool f, .bool m] 50 (0, 0))
def Rf (w : World) (X : Nat) (l : B) (vv : Value) (r : B) (f m : Bool) : Prop := ∃ i : Nat, RfB w X (tx l) (i : Int) vv f m ∧ l.drop i = r ∧ i ≤ l.length
section
variable {w : World} {X : Nat} {T : ByteArray} {i : Int} {vv : Value} {f m : Bool} (h : RfB w X T i vv f m)
include h
theorem rf_cell : w.cell? ⟨X, 0, none⟩ = some (.string T) ∧ w.cell? ⟨X, 1, none⟩ = some (.int .i64 i) ∧ w.cell? ⟨X, 2, none⟩ = some vv ∧ w.cell? ⟨X, 3, none⟩ = some (.bool f) ∧ w.cell? ⟨X, 4, none⟩ = some (.bool m) ∧ ∀ o, w.frozen? ⟨X, o, none⟩ = false :=
  ⟨cell_of_row w X 0 _ _ _ h, cell_of_row w X 1 _ _ _ h, cell_of_row w X 2 _ _ _ h, cell_of_row w X 3 _ _ _ h, cell_of_row w X 4 _ _ _ h, fun o => Lib.frozen_of_heap h o⟩
theorem rf_set1 (u : Int) : RfB (w.setCell ⟨X, 1, none⟩ (.int .i64 u)) X T u vv f m := by simp [RfB, World.setCell, Array.getElem?_modify, h]
theorem rf_set3 (u : Bool) : RfB (w.setCell ⟨X, 3, none⟩ (.bool u)) X T i vv u m := by simp [RfB, World.setCell, Array.getElem?_modify, h]
theorem rf_set4 (u : Bool) : RfB (w.setCell ⟨X, 4, none⟩ (.bool u)) X T i vv f u := by simp [RfB, World.setCell, Array.getElem?_modify, h]
theorem rf_lt : X < w.heap.size := (Array.getElem?_eq_some_iff.1 h).1
end
theorem rf_other {w : World} {X o : Nat} {u : Value} {k : Nat} (hk : X ≠ k) : (w.setCell ⟨X, o, none⟩ u).heap[k]? = w.heap[k]? := Below.heap_setCell w ⟨X, o, none⟩ u k (fun e => hk e.symm)
theorem rf_below {w0 w : World} {X o : Nat} {u : Value} (h : Below X w0 w) : Below X w0 (w.setCell ⟨X, o, none⟩ u) := ⟨h.os, h.tape, h.output, by have := h.size; simpa [World.setCell] using this, fun k hk => (rf_other (by omega)).trans (h.block k hk)⟩
theorem rf_drewN {X : Nat} {w0 w : World} (h : Below X w0 w) (n : Nat) : Below X w0 (w.drewN n) := ⟨h.os, h.tape, h.output, h.size, h.block⟩
theorem Rf.new {w w' : World} {X : Nat} {l : B} {vv : Value} {r : B} {f m : Bool} (h : Rf w X l vv r f m) (hb : Below w.heap.size w w') : Rf w' X l vv r f m := by
  obtain ⟨i, h1, h2⟩ := h
  exact ⟨i, (hb.block X (rf_lt h1)).trans h1, h2⟩
theorem Rf.lt {w : World} {X : Nat} {l : B} {vv : Value} {r : B} {f m : Bool} (h : Rf w X l vv r f m) : X < w.heap.size := by
  obtain ⟨i, h1, h2⟩ := h
  exact rf_lt h1
theorem rblaC (c : UInt8) (w : World) : Calls Tryd.prog 31 #[.int .i32 (c.toNat : Int)] w fun e w' => e = .returned (.bool (blaC c)) ∧ w = w' := by
  rw [blaC_R]; exact rblank_any _ w
/-- What comes next, behind blanks; 0: nothing. -/
def nextB (f : Bool) (r : B) : Nat := if f then 0 else match skipB r with | [] => 0 | c :: _ => c.toNat

theorem drop_get {l r : B} {i : Nat} {c : UInt8} (h : l.drop i = c :: r) : ∃ hi : i < (tx l).size, ((tx l)[i]'hi) = c ∧ l.drop (i + 1) = r ∧ i < l.length := by
  have hl : i < l.length := by
    by_cases h0 : i < l.length
    · exact h0
    · rw [List.drop_eq_nil_of_le (by omega)] at h; cases h
  rw [List.drop_eq_getElem_cons hl] at h
  have h1 := (List.cons.inj h)
  refine ⟨by rw [tx_size]; exact hl, ?_, h1.2, hl⟩
  rw [← h1.1]; rfl
theorem drop_end {l : B} {i : Nat} (h : l.drop i = []) (hi : i ≤ l.length) : i = l.length := by
  have := congrArg List.length h
  rw [List.length_drop] at this
  simp at this; omega
theorem skip_cons_t {c : UInt8} {r : B} (h : blaC c = true) : skipB (c :: r) = skipB r := by unfold skipB; rw [List.dropWhile_cons, if_pos h]
theorem skip_cons_f {c : UInt8} {r : B} (h : blaC c = false) : skipB (c :: r) = c :: r := by unfold skipB; rw [List.dropWhile_cons, if_neg (by simp [h])]
theorem skip_skip (r : B) : skipB (skipB r) = skipB r := by
  cases h : skipB r with
  | nil => rfl
  | cons c q =>
    have : blaC c = false := by
      have h2 : ∀ a : B, ∀ c q, a.dropWhile blaC = c :: q → blaC c = false := by
        intro a
        induction a with
        | nil => intro c q h; simp at h
        | cons b s ih =>
          intro c q h
          rw [List.dropWhile_cons] at h
          split at h
          · exact ih c q h
          · rename_i hb; cases h; simpa using hb
      exact h2 r c q h
    exact skip_cons_f this
section
variable {w : World} {X : Nat} {l r : B} {vv : Value} {f m : Bool}
set_option maxRecDepth 8000 in
set_option maxHeartbeats 2000000 in
theorem rskip_any (hl : l.length ≤ 2147483648) (h : Rf w X l vv r f m) :
    Calls Tryd.prog 17 #[.pointer (some ⟨X, 0, none⟩)] w fun e w' => e = .returned (.int .u8 (nextB f r : Int)) ∧ Rf w' X l vv (skipB r) f m ∧ Below X w w' := by
  have hX := h.lt
  have hsz : ((tx l).size : Int) = (l.length : Int) := by rw [tx_size]
  obtain ⟨LL, hLL⟩ : ∃ L : Int, (l.length : Int) = L := ⟨_, rfl⟩
  rw [hLL] at hsz
  have hL1 : LL ≤ 2147483648 := by omega
  have HLL := Lib.hid hLL
  obtain ⟨K, hK⟩ : ∃ K, skipB r = K := ⟨_, rfl⟩
  have hE : nextB f r = nextB f K := by unfold nextB; rw [← hK, skip_skip]
  have HE := Lib.hid hE
  have hI0 : Below X w w := Below.refl X w
  have HST := Lib.hid (show ∃ q, Rf w X l vv q f m ∧ Below X w w ∧ skipB q = K ∧ q.length ≤ r.length from ⟨r, h, hI0, hK, Nat.le_refl _⟩)
  have HKK := Lib.hid (show skipB K = K by rw [← hK, skip_skip])
  rw [hK, hE]
  clear h hK hE hI0 hLL hl
  go_enter Tryd.func17, Tryd.ntmps17
  go_wp2_with fail
  go_loopg [] (r.length) (fun gf wx => Hid (∃ q, Rf wx X l vv q f m ∧ Below X w wx ∧ skipB q = K ∧ q.length ≤ gf))
  case atStart => exact HST
  case round =>
    obtain ⟨q, hq, hb, hs, hg⟩ := hrel.out
    clear hrel HST
    obtain ⟨i, hB, hd, hi⟩ := hq
    have HB := Lib.hid hB
    have HBW := Lib.hid hb
    obtain ⟨c0, c1, -, c3, -, hfz⟩ := rf_cell hB
    have f1 := hfz 1
    clear hfz hB hb
    cases q with
    | nil =>
      have hil := drop_end hd hi
      have hKn : K = [] := by rw [← hs]; rfl
      have hge : LL ≤ (i : Int) := by have := HLL.out; omega
      have hd1 : decide ((i : Int) < LL) = false := by simp; omega
      have hd2 : decide (LL ≤ (i : Int)) = true := by simpa using hge
      have HR := Lib.hid (And.intro hd hi)
      have HN := Lib.hid (show nextB f K = 0 ∧ K = [] from ⟨by rw [hKn]; unfold nextB; cases f <;> rfl, hKn⟩)
      clear hd hi hil hs hKn
      go_wp2_with fail
      go_quiet (fail)
      go_wp2_with fail
      go_quiet (fail)
      go_wp2_with fail
      go_ret
      refine ⟨by rw [HN.out.1]; rfl, ⟨i, HB.out, by rw [HN.out.2]; exact HR.out.1, HR.out.2⟩, by (repeat refine rf_drewN ?_ _); exact HBW.out⟩
    | cons c q =>
      obtain ⟨hix, hc, hd', hil⟩ := drop_get hd
      have hlt : (i : Int) < LL := by have := HLL.out; omega
      have hd1 : decide ((i : Int) < LL) = true := by simpa using hlt
      have HC := Lib.hid (fun W => rblaC c W)
      obtain ⟨b, hb⟩ : ∃ b, blaC c = b := ⟨_, rfl⟩
      rw [hb] at HC
      have hxi : ((tx l)[i]'hix).toNat = c.toNat := by rw [hc]
      have e1 : IntKind.i32.wrap (c.toNat : Int) = c.toNat := u8_rune c
      have e9 : IntKind.i64.wrap ((i : Int) + 1) = (i : Int) + 1 := IntWalk.i64_in _ ⟨by omega, by omega⟩
      cases b with
      | true =>
        obtain ⟨g', rfl⟩ : ∃ g', gk = g' + 1 := ⟨gk - 1, by simp at hg; omega⟩
        have HR := Lib.hid (And.intro hd' (And.intro hil (And.intro ((skip_cons_t hb).symm.trans hs) (show q.length ≤ g' by simp at hg; omega))))
        clear hd hi hs hg hd' hc hb hil
        go_wp2_with fail
        go_quiet ((go_at_call 31; refine (HC.out _).mono ?_; rintro e w2 ⟨rfl, rfl⟩; exact ⟨rfl, _, rfl⟩))
        go_wp2_with fail
        go_roundg g'
        case rel => exact Lib.hid ⟨q, ⟨i + 1, by rw [show ((i + 1 : Nat) : Int) = (i : Int) + 1 by omega]; exact rf_set1 HB.out _, HR.out.1, HR.out.2.1⟩, rf_below (rf_drewN HBW.out _), HR.out.2.2.1, HR.out.2.2.2⟩
        case measure => omega
      | false =>
        have hd2 : decide (LL ≤ (i : Int)) = false := by simp; omega
        have HR := Lib.hid (And.intro hd (And.intro hi (And.intro ((skip_cons_f hb).symm.trans hs) hb)))
        clear hd hi hs hg hd' hc hb hil
        go_wp2_with fail
        go_quiet ((go_at_call 31; refine (HC.out _).mono ?_; rintro e w2 ⟨rfl, rfl⟩; exact ⟨rfl, _, rfl⟩))
        go_wp2_with fail
        have HN := Lib.hid (show nextB f K = (if f then 0 else c.toNat) by rw [← HR.out.2.2.1]; unfold nextB; rw [skip_cons_f HR.out.2.2.2])
        cases f with
        | true =>
          go_quiet (fail)
          go_wp2_with fail
          go_ret
          exact ⟨by rw [HN.out]; rfl, ⟨i, HB.out, by rw [← HR.out.2.2.1]; exact HR.out.1, HR.out.2.1⟩, by (repeat refine rf_drewN ?_ _); exact HBW.out⟩
        | false =>
          go_quiet (fail)
          go_wp2_with fail
          go_quiet (fail)
          go_wp2_with fail
          go_ret
          exact ⟨by rw [HN.out]; rfl, ⟨i, HB.out, by rw [← HR.out.2.2.1]; exact HR.out.1, HR.out.2.1⟩, by (repeat refine rf_drewN ?_ _); exact HBW.out⟩
end
end Go.Proofs.YtlgbfhjbfolibaaDoor
