/-
  Proved: texts joined: Proved: contracts of strings.Builder's copyCheck, WriteRune and String at a builder that a call has made. Conditions: as each says.
  Proved: contracts of the program's sets of letters (acts, begins, ends, isOther, reckons), at every letter that a text may have, and at 0. Conditions: as each says.
  Proved: the contract of a reader's till, for whatever function value that tells of a letter whether it stops. Conditions: the reader lies in memory; the function value does as it is said.
-/
import Derived.Test.YtakceggnadagmaaGreatDoorPj24
import Derived.Test.YtakceggnadagmaaGreatDoorPj04
import Derived.Shelf.Strings.BuilderRune
import Derived.BigCall
namespace Go.Proofs.YtakceggnadagmaaGreatDoor
open Go Go.RowKit GlyphMath LexMath

set_option maxRecDepth 100000 in
theorem copyCheck_fresh (b : Nat) (w : World) (h0 : w.cell? ⟨b, 0, none⟩ = some (.pointer none)) (hsh : w.shape? b = some (144, 2)) (hfz : w.frozen? ⟨b, 0, none⟩ = false) :
    Calls Tryz.prog 118 #[.pointer (some ⟨b, 0, none⟩)] w fun e w' => e = .returned (.tuple #[]) ∧ w' = w.setCell ⟨b, 0, none⟩ (.pointer (some ⟨b, 0, none⟩)) := by
  obtain ⟨j, hj, hjs⟩ := Option.map_eq_some_iff.1 (show (Tryz.prog.info? 144).map (·.size) = some 2 by kernel_rfl)
  go_enter Tryz.func118, Tryz.ntmps118
  go_wp2_with fail
  rw [Lib.run_to_unsafe w ⟨b, 0, none⟩ Tryz.underlying141 Tryz.underlying180 hj (by rw [hjs]; decide) hsh (Nat.zero_lt_succ 1)]
  simp only [Result.andThen]
  rw [Oper.upon_value]
  go_wp2_with fail
  rw [run_callFunc_extern Tryz.func142 (by kernel_rfl) (by kernel_rfl) (by kernel_rfl) (e := Extern.AbiNoEscape.same) (by kernel_rfl)]
  rw [Lib.run_noEscape]
  simp only [Result.andThen]
  rw [Oper.upon_value]
  go_wp2_with fail
  rw [Lib.run_from_unsafe w ⟨b, 0, none⟩ Tryz.underlying180 Tryz.underlying141 hj hsh (by kernel_rfl)]
  simp only [Result.andThen]
  rw [Oper.upon_value]
  go_wp2_with fail
  go_end0
  exact ⟨rfl, rfl⟩

set_option maxRecDepth 100000 in
theorem copyCheck_used (b : Nat) (w : World) (h0 : w.cell? ⟨b, 0, none⟩ = some (.pointer (some ⟨b, 0, none⟩))) :
    Calls Tryz.prog 118 #[.pointer (some ⟨b, 0, none⟩)] w fun e w' => e = .returned (.tuple #[]) ∧ w' = w := by
  obtain ⟨j, hj, _⟩ := Option.map_eq_some_iff.1 (show (Tryz.prog.info? 144).map (·.size) = some 2 by kernel_rfl)
  go_enter Tryz.func118, Tryz.ntmps118
  go_wp2_with fail
  rw [Lib.run_neq_ptr_same w _ Tryz.underlying141 hj]
  go_wp2_with fail
  go_end0
  exact ⟨rfl, rfl⟩

/-- A builder that the call has made, at B and above; it holds these bytes. -/
def Bld (w : World) (B b : Nat) (l : List UInt8) : Prop := Lib.IsBuilderF 144 5 B b (Lib.byteCells l) w

theorem copyCheck_any (B b : Nat) (l : List UInt8) (w : World) (h : Bld w B b l) :
    Calls Tryz.prog 118 #[.pointer (some ⟨b, 0, none⟩)] w fun e w' => e = .returned (.tuple #[]) ∧ Lib.BuilderAtF 144 5 B b (.pointer (some ⟨b, 0, none⟩)) (Lib.byteCells l) w' ∧ Below B w w' := by
  rcases h with h | h
  · refine (copyCheck_fresh b w h.cell0 h.shape h.frozen0).mono ?_
    rintro e w' ⟨rfl, rfl⟩
    exact ⟨rfl, h.used _, (Below.refl B w).setCell (p := ⟨b, 0, none⟩) h.1 _⟩
  · refine (copyCheck_used b w h.cell0).mono ?_
    rintro e w' ⟨rfl, rfl⟩
    exact ⟨rfl, h, Below.refl B _⟩

theorem eb_good {r : Nat} (h : GoodL r) : Lib.encodeRune (r : Int) = eb r := by
  obtain ⟨h0, h1, h2⟩ := h
  unfold Lib.encodeRune eb
  by_cases k1 : r < 128
  · rw [Lib.encodeRuneZ_one (by omega) (by omega), if_pos k1]; simp [UInt8.ofNat, Int.toNat]
  · rw [if_neg k1]
    by_cases k2 : r < 2048
    · rw [Lib.encodeRuneZ_two (by omega) (by omega), if_pos k2]
      have e1 : (192 + (r : Int) / 64).toNat = 192 + r / 64 := by omega
      have e2 : (128 + (r : Int) % 64).toNat = 128 + r % 64 := by omega
      simp [e1, e2]
    · rw [if_neg k2]
      by_cases k3 : r < 65536
      · rw [Lib.encodeRuneZ_three (by omega), if_pos k3]
        have e1 : (224 + (r : Int) / 4096).toNat = 224 + r / 4096 := by omega
        have e2 : (128 + (r : Int) / 64 % 64).toNat = 128 + r / 64 % 64 := by omega
        have e3 : (128 + (r : Int) % 64).toNat = 128 + r % 64 := by omega
        simp [e1, e2, e3]
      · rw [Lib.encodeRuneZ_four (by omega) (by omega), if_neg k3]
        have e1 : (240 + (r : Int) / 262144).toNat = 240 + r / 262144 := by omega
        have e2 : (128 + (r : Int) / 4096 % 64).toNat = 128 + r / 4096 % 64 := by omega
        have e3 : (128 + (r : Int) / 64 % 64).toNat = 128 + r / 64 % 64 := by omega
        have e4 : (128 + (r : Int) % 64).toNat = 128 + r % 64 := by omega
        simp [e1, e2, e3, e4]

set_option maxHeartbeats 1000000 in
set_option maxRecDepth 100000 in
theorem writeRune_any (B b : Nat) (l : List UInt8) (r : Nat) (hr : GoodL r) (w : World) (h : Bld w B b l) (hl : l.length ≤ 100000) (hB : B ≤ w.heap.size) :
    Calls Tryz.prog 96 #[.pointer (some ⟨b, 0, none⟩), .int .i32 (r : Int)] w fun e w' => (∃ n, e = .returned (.tuple #[.int .i64 n, .nilIface])) ∧ Bld w' B b (l ++ eb r) ∧ Below B w w' := by
  have HC := Lib.hid (copyCheck_any B b l w h)
  have HE := Lib.hid (eb_good hr)
  have hr1 := hr.2.1
  have HL := Lib.hid hl
  have HBW := Lib.hid hB
  clear h hr hl hB
  go_enter Tryz.func96, Tryz.ntmps96
  go_wp2_with fail
  refine HC.out.mono ?_
  rintro e w1 ⟨rfl, h1, hb1⟩
  obtain ⟨hbB, v, hbk, hown, hne⟩ := h1
  obtain ⟨ao, cap, rfl⟩ : ∃ ao cap, v = .slice ao (Lib.byteCells l).length cap := by
    rcases hown.2 with ⟨hv, h0⟩ | ⟨g, cap, cur, fz, hv, _⟩
    · exact ⟨none, 0, by rw [hv, h0]⟩
    · exact ⟨_, _, hv⟩
  obtain ⟨N, hN⟩ : ∃ N, (Lib.byteCells l).length = N := ⟨_, rfl⟩
  have hNl : N ≤ 100000 := by rw [← hN, Lib.byteCells_length]; exact HL.out
  rw [hN] at hown hne hbk
  have c0 : w1.cell? ⟨b, 0, none⟩ = some (.pointer (some ⟨b, 0, none⟩)) := by rw [Lib.cell_of_heap hbk]; rfl
  have c1 : w1.cell? ⟨b, 1, none⟩ = some (.slice ao N cap) := by rw [Lib.cell_of_heap hbk]; rfl
  have HO := Lib.hid hown
  have HNE := Lib.hid hne
  have HK := Lib.hid hbk
  have HB1 := Lib.hid hb1
  have HNN := Lib.hid hN
  have HNL := Lib.hid hNl
  clear hown hne hbk hb1 hN hNl
  go_wp2_with fail
  refine (Tryz.utf8_AppendRune_row B _ N (Lib.byteCells l) (r : Int) (by omega) (by omega) _ HO.out (by have := HNL.out; omega) (by have := HB1.out.size; have := HBW.out; omega)).mono ?_
  rintro e w2 ⟨v', rfl, hown', o, hgrow⟩
  have hk4 := Lib.runeCells_le (r : Int)
  have hlt : b < w1.heap.size := (Array.getElem?_eq_some_iff.1 HK.out).1
  have hb2 : w2.heap[b]? = some (.cells #[.pointer (some ⟨b, 0, none⟩), .slice ao N cap] 144 (0, 0)) := by
    rw [hgrow.block b (by simp; omega) (fun e => HNE.out e.symm), Lib.alloc_old w1 _ b hlt]
    exact HK.out
  have d0 : w2.cell? ⟨b, 0, none⟩ = some (.pointer (some ⟨b, 0, none⟩)) := by rw [Lib.cell_of_heap hb2]; rfl
  have d1 : w2.cell? ⟨b, 1, none⟩ = some (.slice ao N cap) := by rw [Lib.cell_of_heap hb2]; rfl
  have f1 : w2.frozen? ⟨b, 1, none⟩ = false := Lib.frozen_of_heap hb2 1
  obtain ⟨g, cap', rfl⟩ : ∃ g cap', v' = .slice (some ⟨g, 0, none⟩) (N + (Lib.runeCells (r : Int)).length) cap' := by
    rcases hown'.2 with ⟨_, h0⟩ | ⟨g, cap', cur, fz, hv, _⟩
    · omega
    · exact ⟨g, cap', hv⟩
  have hbelow := ((Below.refl B w1).alloc (by have := HB1.out.size; have := HBW.out; omega) o).grown hgrow (by have := HB1.out.size; have := HBW.out; simp; omega) (fun k hk => (HO.out.lt k hk).1)
  have HH := Lib.hid (And.intro hown' (And.intro hb2 hbelow))
  clear hown' hgrow hb2 hlt hk4 hbelow
  go_wp2_with fail
  go_ret2
  obtain ⟨k1, k2, k3⟩ := HH.out
  refine ⟨⟨_, rfl⟩, .inr ?_, HB1.out.trans (k3.setCell (p := ⟨b, 1, none⟩) hbB _)⟩
  have e1 : Lib.byteCells (l ++ eb r) = Lib.byteCells l ++ Lib.runeCells (r : Int) := by rw [Lib.byteCells_append, ← HE.out, Lib.byteCells_encodeRune]
  rw [e1]
  have e2 : N + (Lib.runeCells (r : Int)).length = (Lib.byteCells l ++ Lib.runeCells (r : Int)).length := by rw [List.length_append, HNN.out]
  exact Lib.BuilderAtF.put (T := 144) (e := 5) hbB k2 (bs' := Lib.byteCells l ++ Lib.runeCells (r : Int)) (by rw [← e2]; exact k1) (by decide)

theorem string_any (B b : Nat) (l : List UInt8) (w : World) (h : Bld w B b l) (hB : B ≤ w.heap.size) :
    Calls Tryz.prog 98 #[.pointer (some ⟨b, 0, none⟩)] w fun e w' => e = .returned (txt l) ∧ Below B w w' :=
  (Tryz.Builder_String_any_k B b l w h hB).mono fun _ _ ⟨h1, _, h2, _⟩ => ⟨h1, h2⟩
theorem Bld.new (w : World) : Bld (w.alloc (.cells #[.pointer none, .slice none 0 0] 144)) w.heap.size w.heap.size [] := Lib.IsBuilderF.of (Lib.fresh_isBuilder _ _ w)
/-- It stays where nothing at B and above is turned. -/
theorem Bld.kept {D : Nat → Prop} {w w' : World} {B b : Nat} {l : List UInt8} (h : Bld w B b l) (hk : Kept D w w') (hD : ∀ k, B ≤ k → ¬ D k) : Bld w' B b l := by
  have one : ∀ p, Lib.BuilderAtF 144 5 B b p (Lib.byteCells l) w → Lib.BuilderAtF 144 5 B b p (Lib.byteCells l) w' := by
    rintro p ⟨hB, v, hb, hown, hne⟩
    refine ⟨hB, v, hk.heap hb (hD b hB), ⟨hown.1, ?_⟩, hne⟩
    rcases hown.2 with hn | ⟨g, cap, cur, fz, hv, hbg, hg, r⟩
    · exact .inl hn
    · exact .inr ⟨g, cap, cur, fz, hv, hbg, hk.heap hg (hD g hbg), r⟩
  exact h.elim (fun h => .inl (one _ h)) fun h => .inr (one _ h)
end Go.Proofs.YtakceggnadagmaaGreatDoor

namespace Go.Proofs.YtakceggnadagmaaGreatDoor
open Go Go.RowKit GlyphMath LexMath

/-- A letter, or the end. -/
def Lt0 (r : Nat) : Prop := r = 0 ∨ GoodL r
theorem Lt0.high {r : Nat} (h : Lt0 r) (h0 : 128 ≤ r) : GoodL r := h.resolve_left (by omega)

/-- A set of ASCII letters. -/
theorem set_any (s : ByteArray) (S : Nat → Bool) (hs : ∀ b ∈ s.data.toList, b.toNat < 128) (hz : s.size ≤ 100) (h1 : ∀ r, r < 128 → decide (0 ≤ Lib.indexByte s.data.toList r.toUInt8) = S r) (h2 : ∀ r, 128 ≤ r → S r = false)
    (r : Nat) (hr : Lt0 r) (w : World) :
    Calls Tryz.prog 121 #[.string s, .int .i32 (r : Int)] w fun e w' => e = .returned (.bool (S r)) ∧ Below w.heap.size w w' := by
  by_cases h : r < 128
  · refine (Tryz.strings_ContainsRune_ascii s (r : Int) w (by omega) (by omega)).mono ?_
    rintro e w' ⟨rfl, rfl⟩
    rw [show ((r : Int).toNat) = r from rfl, h1 r h]
    exact ⟨rfl, Below.refl _ _⟩
  · have hi : Calls Tryz.prog 144 #[.string s, .int .i32 (r : Int)] w fun e w' => e = .returned (.int .i64 (-1)) ∧ Below w.heap.size w w' := by
      by_cases he : r = 65533
      · subst he; exact index_none s w hs
      · exact index_high s r w (by omega) (hr.high (by omega)) he hs hz
    rw [h2 r (by omega)]
    have HI := Lib.hid hi
    clear hi h1 h2 hs hz hr h
    go_enter Tryz.func121, Tryz.ntmps121
    go_wp2_with (go_at_call 144; refine HI.out.mono ?_; rintro e w1 ⟨rfl, hb⟩; have HB := Lib.hid hb; clear hb)
    go_ret
    exact ⟨rfl, HB.out⟩

theorem acts_in (r : Nat) (hr : Lt0 r) (w : World) :
    Calls Tryz.prog 121 #[.string ⟨#[34, 36, 92]⟩, .int .i32 (r : Int)] w fun e w' => e = .returned (.bool (acts r)) ∧ Below w.heap.size w w' :=
  set_any _ acts (by decide) (by decide) (by decide +kernel) (fun r h => by unfold acts; simp; omega) r hr w
def endL (r : Nat) : Bool := r == 59 || r == 38 || r == 124 || r == 40 || r == 41 || r == 60 || r == 62
theorem ends_in (r : Nat) (hr : Lt0 r) (w : World) :
    Calls Tryz.prog 121 #[.string ⟨#[59, 38, 124, 40, 41, 60, 62]⟩, .int .i32 (r : Int)] w fun e w' => e = .returned (.bool (endL r)) ∧ Below w.heap.size w w' :=
  set_any _ endL (by decide) (by decide) (by decide +kernel) (fun r h => by unfold endL; simp; omega) r hr w
theorem other_in (r : Nat) (hr : Lt0 r) (w : World) :
    Calls Tryz.prog 121 #[.string ⟨#[49, 50, 51, 52, 53, 54, 55, 56, 57, 64, 35, 63]⟩, .int .i32 (r : Int)] w fun e w' => e = .returned (.bool (other r)) ∧ Below w.heap.size w w' :=
  set_any _ other (by decide) (by decide) (by decide +kernel) (fun r h => by unfold other; simp; omega) r hr w
def reckL (r : Nat) : Bool := r == 32 || r == 9 || r == 43 || r == 45 || r == 42 || r == 47 || r == 37 || r == 40 || r == 41 || r == 60 || r == 62 || r == 61 || r == 33
theorem reck_in (r : Nat) (hr : Lt0 r) (w : World) :
    Calls Tryz.prog 121 #[.string ⟨#[32, 9, 43, 45, 42, 47, 37, 40, 41, 60, 62, 61, 33]⟩, .int .i32 (r : Int)] w fun e w' => e = .returned (.bool (reckL r)) ∧ Below w.heap.size w w' :=
  set_any _ reckL (by decide) (by decide) (by decide +kernel) (fun r h => by unfold reckL; simp; omega) r hr w

theorem acts_any (r : Nat) (hr : Lt0 r) (w : World) :
    Calls Tryz.prog 152 #[.int .i32 (r : Int)] w fun e w' => e = .returned (.bool (acts r)) ∧ Below w.heap.size w w' := by
  have HI := Lib.hid (acts_in r hr w)
  clear hr
  go_enter Tryz.func152, Tryz.ntmps152
  go_wp2_with (go_at_call 121; refine HI.out.mono ?_; rintro e w1 ⟨rfl, hb⟩; have HB := Lib.hid hb; clear hb)
  go_ret
  exact ⟨rfl, HB.out⟩
theorem other_any (r : Nat) (hr : Lt0 r) (w : World) :
    Calls Tryz.prog 150 #[.int .i32 (r : Int)] w fun e w' => e = .returned (.bool (other r)) ∧ Below w.heap.size w w' := by
  have HI := Lib.hid (other_in r hr w)
  clear hr
  go_enter Tryz.func150, Tryz.ntmps150
  go_wp2_with (go_at_call 121; refine HI.out.mono ?_; rintro e w1 ⟨rfl, hb⟩; have HB := Lib.hid hb; clear hb)
  go_ret
  exact ⟨rfl, HB.out⟩
theorem begins_any (r : Nat) (hr : Lt0 r) (w : World) :
    Calls Tryz.prog 128 #[.int .i32 (r : Int)] w fun e w' => e = .returned (.bool (begins r)) ∧ Below w.heap.size w w' := by
  have HI := Lib.hid (acts_any r hr w)
  clear hr
  by_cases h : r = 39
  · subst h
    go_enter Tryz.func128, Tryz.ntmps128
    go_wp2_with fail
    go_ret
    exact ⟨rfl, Below.refl _ _⟩
  · have h1 : ((r : Int) == 39) = false := by
      have : ¬ (r : Int) = 39 := by omega
      simpa using this
    have HR := Lib.hid (show begins r = acts r by unfold begins; simp [h])
    clear h
    go_enter Tryz.func128, Tryz.ntmps128
    go_wp2_with (go_at_call 152; refine HI.out.mono ?_; rintro e w1 ⟨rfl, hb⟩; have HB := Lib.hid hb; clear hb)
    go_ret
    exact ⟨by rw [HR.out]; rfl, HB.out⟩
theorem reckons_any (r : Nat) (hr : Lt0 r) (w : World) :
    Calls Tryz.prog 175 #[.int .i32 (r : Int)] w fun e w' => e = .returned (.bool (reckons r)) ∧ Below w.heap.size w w' := by
  have HI := Lib.hid (reck_in r hr w)
  obtain ⟨M, hM⟩ : ∃ M, moreR (r : Int) = M := ⟨_, rfl⟩
  have HM := Lib.hid hM
  have HR := Lib.hid (show reckons r = (M || reckL r) by rw [← hM]; rfl)
  clear hr hM
  cases M
  all_goals
    go_enter Tryz.func175, Tryz.ntmps175
    go_wp2_with (first | (go_at_call 177; refine (more_any _ _).mono ?_; rintro e w1 ⟨rfl, rfl⟩; rw [HM.out]) | (go_at_call 121; refine HI.out.mono ?_; rintro e w1 ⟨rfl, hb⟩; have HB := Lib.hid hb; clear hb))
    go_ret
  · exact ⟨by rw [HR.out]; rfl, HB.out⟩
  · exact ⟨by rw [HR.out]; rfl, Below.refl _ _⟩
theorem ends_any (r : Nat) (n : Nat) (hr : Lt0 r) (w : World) :
    Calls Tryz.prog 100 #[.int .i32 (r : Int), .int .i64 (n : Int)] w fun e w' => e = .returned (.bool (ends r (decide (0 < n)))) ∧ Below w.heap.size w w' := by
  by_cases h : 0 < n
  · have h1 : (0 : Int) < (n : Int) := by omega
    have HR := Lib.hid (show ends r (decide (0 < n)) = (r == 125) by rw [decide_eq_true h]; rfl)
    by_cases h2 : r = 125
    · subst h2
      clear h hr
      go_enter Tryz.func100, Tryz.ntmps100
      go_wp2_with fail
      go_ret
      exact ⟨by rw [HR.out]; rfl, Below.refl _ _⟩
    · have h3 : ((r : Int) == 125) = false := by
        have : ¬ (r : Int) = 125 := by omega
        simpa using this
      have HR2 := Lib.hid (show (r == 125) = false by simpa using h2)
      clear h hr h2
      go_enter Tryz.func100, Tryz.ntmps100
      go_wp2_with fail
      go_ret
      exact ⟨by rw [HR.out, HR2.out]; rfl, Below.refl _ _⟩
  · obtain rfl : n = 0 := by omega
    have HI := Lib.hid (ends_in r hr w)
    obtain ⟨M, hM⟩ : ∃ M, blankR (r : Int) = M := ⟨_, rfl⟩
    have HM := Lib.hid hM
    have HR := Lib.hid (show ends r (decide (0 < 0)) = (M || endL r) by rw [← hM]; rfl)
    clear hr hM h
    cases M
    all_goals
      go_enter Tryz.func100, Tryz.ntmps100
      go_wp2_with (first | (go_at_call 120; refine (blank_any _ _).mono ?_; rintro e w1 ⟨rfl, rfl⟩; rw [HM.out]) | (go_at_call 121; refine HI.out.mono ?_; rintro e w1 ⟨rfl, hb⟩; have HB := Lib.hid hb; clear hb))
      go_ret
    · exact ⟨by rw [HR.out]; rfl, HB.out⟩
    · exact ⟨by rw [HR.out]; rfl, Below.refl _ _⟩
end Go.Proofs.YtakceggnadagmaaGreatDoor

namespace Go.Proofs.YtakceggnadagmaaGreatDoor
open Go Go.RowKit GlyphMath LexMath

/-- How many cells a reader has left. -/
def lenAt (w : World) (X : Nat) : Nat := match w.cell? ⟨X, 0, none⟩ with
  | some (.slice _ n _) => n
  | _ => 0
theorem Rd.lenAt {w : World} {X G sz : Nat} {xs : List Nat} (h : Rd w X G sz xs) : lenAt w X = xs.length + 1 := by
  obtain ⟨o, c, h⟩ := h
  unfold Go.Proofs.YtakceggnadagmaaGreatDoor.lenAt
  rw [h.cell0]

/-- What a function value that stops is: it answers of each letter, in each world where I holds, and turns nothing that was there. -/
structure Stops (f : FuncId) (caps : Array Value) (S : Nat → Bool) (I : World → Prop) : Prop where
  enter : ∀ args w, (callFunc f args).run Tryz.prog w = .ok (.enter f args) w
  call : ∀ (r : Nat) (W : World), Lt0 r → I W → Calls Tryz.prog f (#[.int .i32 (r : Int)] ++ caps) W fun e w' => e = .returned (.bool (S r)) ∧ Below W.heap.size W w'

theorem got_stop (S : Nat → Bool) (c : Nat) (r : List Nat) (h : S c = true) : got S (c :: r) = [] ∧ left S (c :: r) = c :: r := by
  rw [show got S (c :: r) = if S c then [] else c :: got S r from rfl, show left S (c :: r) = if S c then c :: r else left S r from rfl, if_pos h, if_pos h]
  exact ⟨rfl, rfl⟩
theorem got_go (S : Nat → Bool) (c : Nat) (r : List Nat) (h : S c = false) : got S (c :: r) = c :: got S r ∧ left S (c :: r) = left S r := by
  rw [show got S (c :: r) = if S c then [] else c :: got S r from rfl, show left S (c :: r) = if S c then c :: r else left S r from rfl, if_neg (by rw [h]; decide), if_neg (by rw [h]; decide)]
  exact ⟨rfl, rfl⟩

set_option maxHeartbeats 1000000 in
set_option maxRecDepth 100000 in
theorem till_any {f : FuncId} {caps : Array Value} {S : Nat → Bool} {I : World → Prop} (hS : Stops f caps S I) {w : World} {X G sz : Nat} {xs : List Nat} (h : Rd w X G sz xs)
    (hI : ∀ W, Kept (fun k => k = X) w W → I W) :
    Calls Tryz.prog 70 #[.pointer (some ⟨X, 0, none⟩), .func (.func f) #[] caps] w fun e w' => e = .returned (txt (enc (got S xs))) ∧ RStep w w' X G sz (left S xs) := by
  have HS := Lib.hid hS
  have HI := Lib.hid hI
  have HW := Lib.hid h
  have ef := hS.enter
  clear hS hI h
  go_enter Tryz.func70, Tryz.ntmps70
  go_wp2_with fail
  go_loopw [] (fun wr => ∃ done ys, Rd wr X G sz ys ∧ Bld wr w.heap.size w.heap.size (enc done) ∧ Kept (fun k => k = X) w wr ∧ w.heap.size < wr.heap.size ∧ got S xs = done ++ got S ys ∧ left S xs = left S ys ∧ done.length + ys.length = xs.length) (fun wr => lenAt wr X)
  case atStart =>
    refine ⟨[], xs, HW.out.below ?_, Bld.new w, Kept.of_below ?_, by simp, rfl, rfl, by simp⟩
    · exact (Below.refl _ w).alloc (Nat.le_refl _) _
    · exact (Below.refl _ w).alloc (Nat.le_refl _) _
  case round =>
    obtain ⟨done, ys, hr, hb, hk, hz, hg, hl, hn⟩ := hrel
    have HR := Lib.hid hr
    have HN := Lib.hid (next_any hr)
    have HT := Lib.hid (take_any hr)
    have HB := Lib.hid hb
    have HK := Lib.hid hk
    have HZ := Lib.hid hz
    have HG := Lib.hid (And.intro hg (And.intro hl hn))
    clear hr hb hk hz hg hl hn
    cases ys with
    | nil =>
      have HE := Lib.hid (string_any w.heap.size w.heap.size (enc done) wr HB.out (by have := HZ.out; omega))
      go_wp2_with (first | (go_at_call 72; refine HN.out.mono ?_; rintro e w1 ⟨rfl, rfl⟩; simp only [next]) | (go_at_call 98; refine HE.out.mono ?_; rintro e w2 ⟨rfl, hb2⟩; have HB2 := Lib.hid hb2; clear hb2))
      go_ret
      obtain ⟨g1, g2, g3⟩ := HG.out
      have hk2 : Kept (fun k => w.heap.size ≤ k) wr w2 := ⟨HB2.out.os, HB2.out.tape, HB2.out.output, HB2.out.size, fun k _ hd => HB2.out.block k (by omega)⟩
      have hlt := HW.out.lt
      refine ⟨by rw [g1]; simp [got], ?_, ?_⟩
      · rw [g2]
        exact HR.out.kept hk2 (by omega) (by omega)
      · exact HK.out.trans hk2 fun i hi => .inr hi
    | cons c r =>
      have hc := HR.out.good c (by simp)
      have hx : ((c : Int) != 0) = true := by
        have := hc.1
        have : ¬ (c : Int) = 0 := by omega
        simpa using this
      have hcall := HS.out.call c wr (.inr hc) (HI.out wr HK.out)
      obtain ⟨b, hb⟩ : ∃ b, S c = b := ⟨_, rfl⟩
      rw [hb] at hcall
      have HC := Lib.hid hcall
      have HGC := Lib.hid hc
      have HSC := Lib.hid hb
      clear hc hcall hb
      cases b with
      | true =>
        go_wp2_with (first | (go_at_call 72; refine HN.out.mono ?_; rintro e w1 ⟨rfl, rfl⟩; simp only [next]) | (go_at_fn f; refine HC.out.mono ?_; rintro e w1 ⟨rfl, hb1⟩; have HB1 := Lib.hid hb1; clear hb1; have HE := Lib.hid (string_any w.heap.size w.heap.size (enc done) w1 (HB.out.kept (D := fun _ => False) (Kept.of_below HB1.out) (fun _ _ h => h)) (by have := HZ.out; have := HB1.out.size; omega))) | (go_at_call 98; refine HE.out.mono ?_; rintro e w2 ⟨rfl, hb2⟩; have HB2 := Lib.hid hb2; clear hb2))
        go_ret
        obtain ⟨g1, g2, g3⟩ := HG.out
        obtain ⟨s1, s2⟩ := got_stop S c r HSC.out
        have hk1 : Kept (fun k => k = X) wr w1 := Kept.of_below HB1.out
        have hk2 : Kept (fun k => w.heap.size ≤ k) w1 w2 := ⟨HB2.out.os, HB2.out.tape, HB2.out.output, HB2.out.size, fun k _ hd => HB2.out.block k (by omega)⟩
        have hlt := HW.out.lt
        refine ⟨by rw [g1, s1]; simp, ?_, ?_⟩
        · rw [g2, s2]
          exact (HR.out.below HB1.out).kept hk2 (by omega) (by omega)
        · exact (HK.out.on hk1).trans hk2 fun i hi => .inr hi
      | false =>
        go_wp2_with (first
          | (go_at_call 72; refine HN.out.mono ?_; rintro e w1 ⟨rfl, rfl⟩; simp only [next])
          | (go_at_fn f; refine HC.out.mono ?_; rintro e w1 ⟨rfl, hb1⟩; have HB1 := Lib.hid hb1; clear hb1; have HT1 := Lib.hid (take_any (HR.out.below HB1.out)))
          | (go_at_call 97; refine HT1.out.mono ?_; rintro e w2 ⟨rfl, hs2⟩; have HS2 := Lib.hid hs2; clear hs2; simp only [next]; have HE := Lib.hid (writeRune_any w.heap.size w.heap.size (enc done) c HGC.out w2 ((HB.out.kept (D := fun _ => False) (Kept.of_below HB1.out) (fun _ _ h => h)).kept HS2.out.2 (fun k hk e => by have := HW.out.lt; omega)) (by have h1 := (enc_length done).2; have h2 := HG.out.2.2; have h3 := HW.out.few; omega) (by have h1 := HS2.out.2.size; have h2 := HB1.out.size; have h3 := HZ.out; omega)))
          | (go_at_call 96; refine HE.out.mono ?_; rintro e w3 ⟨⟨n3, rfl⟩, hd3, hb3⟩; have HD3 := Lib.hid (And.intro hd3 hb3); clear hd3 hb3))
        go_roundw
        case rel =>
          obtain ⟨g1, g2, g3⟩ := HG.out
          obtain ⟨s1, s2⟩ := got_go S c r HSC.out
          have hlt := HW.out.lt
          have hk1 : Kept (fun k => k = X) wr w1 := Kept.of_below HB1.out
          have hk3 : Kept (fun k => w.heap.size ≤ k) w2 w3 := ⟨HD3.out.2.os, HD3.out.2.tape, HD3.out.2.output, HD3.out.2.size, fun k _ hd => HD3.out.2.block k (by omega)⟩
          refine ⟨done ++ [c], r, HS2.out.1.kept hk3 (by omega) (by omega), ?_, ((HK.out.on hk1).on HS2.out.2).trans hk3 fun i hi => .inr hi, ?_, ?_, ?_, ?_⟩
          · rw [enc_append]; simp only [enc, List.append_nil]; exact HD3.out.1
          · have h1 := HS2.out.2.size; have h2 := HB1.out.size; have h3 := HZ.out; have h4 := HD3.out.2.size; omega
          · rw [g1, s1]; simp
          · rw [g2, s2]
          · rw [List.length_append]; simp at g3 ⊢; omega
        case measure =>
          have hlt := HW.out.lt
          have hk3 : Kept (fun k => w.heap.size ≤ k) w2 w3 := ⟨HD3.out.2.os, HD3.out.2.tape, HD3.out.2.output, HD3.out.2.size, fun k _ hd => HD3.out.2.block k (by omega)⟩
          have e1 := (HS2.out.1.kept hk3 (by omega) (by omega)).lenAt
          have e2 := HR.out.lenAt
          simp only [e1, e2, List.tail_cons, List.length_cons]
          omega
end Go.Proofs.YtakceggnadagmaaGreatDoor
