/-
  Proved: texts joined: Proved: the contracts of part and parts, of whatever dollar. Conditions: the reader and the row lie in memory.
  Proved: the contract of dollar at a brace. Conditions: the reader and the row lie in memory.
-/
import Derived.Test.YtakceggnadagmaaGreatDoorPj30
namespace Go.Proofs.YtakceggnadagmaaGreatDoor
open Go Go.RowKit GlyphMath LexMath

def DB (n : Nat) : Obj := .cells #[.int .i64 (n : Int)] 3

set_option maxHeartbeats 1000000 in
theorem part_any {depth : Nat} {br : List Nat → Res Pt} (hb : BraceOk br) (hD : DollarDo depth br) {w : World} {X G sz B W : Nat} {xs : List Nat} {ps : List Pt} (h0 : RowIn w X G sz B W xs ps) (hf : Fits xs ps) (hx : xs ≠ []) :
    Calls Tryz.prog 101 #[.pointer (some ⟨X, 0, none⟩), .pointer (some ⟨W, 0, none⟩), .int .i64 (depth : Int)] w fun e w' => RowEnd w w' e X G sz B W (partM br (decide (0 < depth)) xs ps) := by
  have hb1 : Below w.heap.size w (w.alloc (DB depth)) := (Below.refl _ w).alloc (Nat.le_refl _) _
  have hA : Kept (fun k => k = X ∨ B ≤ k) w (w.alloc (DB depth)) := Kept.of_below hb1
  have HA := Lib.hid hA
  have h := h0.below hb1
  have HN := Lib.hid (next_any h.rd)
  have hcell : (w.alloc (DB depth)).cell? ⟨w.heap.size, 0, none⟩ = some (.int .i64 (depth : Int)) := by rw [cell_plain (heap_alloc_new w (DB depth))]; rfl
  have HCELL := Lib.hid hcell
  have hXw : X < w.heap.size := h0.rd.lt.1
  have HXW := Lib.hid hXw
  obtain ⟨W1, hW1⟩ : ∃ W1, w.alloc (DB depth) = W1 := ⟨_, rfl⟩
  obtain ⟨y, hy⟩ : ∃ y, next xs = y := ⟨_, rfl⟩
  by_cases hc : y = 92
  · skip
    have HE := Lib.hid (show Calls Tryz.prog 122 #[.pointer (some ⟨X, 0, none⟩), .pointer (some ⟨W, 0, none⟩)] (w.alloc (DB depth)) fun e w' => RowEnd (w.alloc (DB depth)) w' e X G sz B W (partM br (decide (0 < depth)) xs ps) by
      rw [show partM br (decide (0 < depth)) xs ps = escapedM xs ps by unfold partM; rw [if_pos (by rw [hy]; exact hc)]]
      exact escaped_any h hf)
    rw [hy, hc] at HN
    obtain ⟨M, hM⟩ : ∃ M, partM br (decide (0 < depth)) xs ps = M := ⟨_, rfl⟩
    rw [hM] at HE ⊢
    clear h hf hM h0 hb hD hx hy hc hb1 hA hcell hXw hW1
    go_enter Tryz.func101, Tryz.ntmps101
    go_wp2_with (go_at_call 72; refine HN.out.mono ?_; rintro e w1 ⟨rfl, rfl⟩; simp only [DB])
    refine HE.out.mono ?_
    intro e w2 hE
    cases M with
    | error cc =>
      obtain ⟨hcc, rfl, hk⟩ := hE
      have HR := Lib.hid (And.intro hcc hk)
      clear hcc hk
      go_wp2_with fail
      go_ret
      exact ⟨HR.out.1, rfl, HA.out.on HR.out.2⟩
    | ok a =>
      obtain ⟨qs, r⟩ := a
      obtain ⟨rfl, hr1, hr2, hr3⟩ := hE
      have HR := Lib.hid (And.intro hr1 (And.intro hr2 hr3))
      clear hr1 hr2 hr3
      go_wp2_with fail
      go_ret
      exact ⟨rfl, HR.out.1, HR.out.2.1, HA.out.on HR.out.2.2⟩
  · have n92 := hc
    clear hc
    by_cases hc : y = 39
    · skip
      have HE := Lib.hid (show Calls Tryz.prog 123 #[.pointer (some ⟨X, 0, none⟩), .pointer (some ⟨W, 0, none⟩)] (w.alloc (DB depth)) fun e w' => RowEnd (w.alloc (DB depth)) w' e X G sz B W (partM br (decide (0 < depth)) xs ps) by
        rw [show partM br (decide (0 < depth)) xs ps = singleM xs ps by unfold partM; rw [if_neg (by rw [hy]; exact n92), if_pos (by rw [hy]; exact hc)]]
        exact single_any h hf)
      rw [hy, hc] at HN
      obtain ⟨M, hM⟩ : ∃ M, partM br (decide (0 < depth)) xs ps = M := ⟨_, rfl⟩
      rw [hM] at HE ⊢
      clear h hf hM h0 hb hD hx hy hc hb1 hA hcell hXw hW1 n92
      go_enter Tryz.func101, Tryz.ntmps101
      go_wp2_with (go_at_call 72; refine HN.out.mono ?_; rintro e w1 ⟨rfl, rfl⟩; simp only [DB])
      refine HE.out.mono ?_
      intro e w2 hE
      cases M with
      | error cc =>
        obtain ⟨hcc, rfl, hk⟩ := hE
        have HR := Lib.hid (And.intro hcc hk)
        clear hcc hk
        go_wp2_with fail
        go_ret
        exact ⟨HR.out.1, rfl, HA.out.on HR.out.2⟩
      | ok a =>
        obtain ⟨qs, r⟩ := a
        obtain ⟨rfl, hr1, hr2, hr3⟩ := hE
        have HR := Lib.hid (And.intro hr1 (And.intro hr2 hr3))
        clear hr1 hr2 hr3
        go_wp2_with fail
        go_ret
        exact ⟨rfl, HR.out.1, HR.out.2.1, HA.out.on HR.out.2.2⟩
    · have n39 := hc
      clear hc
      by_cases hc : y = 34
      · skip
        have HE := Lib.hid (show Calls Tryz.prog 124 #[.pointer (some ⟨X, 0, none⟩), .pointer (some ⟨W, 0, none⟩), .int .i64 (depth : Int)] (w.alloc (DB depth)) fun e w' => RowEnd (w.alloc (DB depth)) w' e X G sz B W (partM br (decide (0 < depth)) xs ps) by
          rw [show partM br (decide (0 < depth)) xs ps = doubleM br xs ps by unfold partM; rw [if_neg (by rw [hy]; exact n92), if_neg (by rw [hy]; exact n39), if_pos (by rw [hy]; exact hc)]]
          exact double_any hb hD h hf hx)
        rw [hy, hc] at HN
        obtain ⟨M, hM⟩ : ∃ M, partM br (decide (0 < depth)) xs ps = M := ⟨_, rfl⟩
        rw [hM] at HE ⊢
        clear h hf hM h0 hb hD hx hy hc hb1 hA hcell hXw hW1 n92 n39
        go_enter Tryz.func101, Tryz.ntmps101
        go_wp2_with (go_at_call 72; refine HN.out.mono ?_; rintro e w1 ⟨rfl, rfl⟩; simp only [DB])
        refine HE.out.mono ?_
        intro e w2 hE
        cases M with
        | error cc =>
          obtain ⟨hcc, rfl, hk⟩ := hE
          have HR := Lib.hid (And.intro hcc hk)
          clear hcc hk
          go_wp2_with fail
          go_ret
          exact ⟨HR.out.1, rfl, HA.out.on HR.out.2⟩
        | ok a =>
          obtain ⟨qs, r⟩ := a
          obtain ⟨rfl, hr1, hr2, hr3⟩ := hE
          have HR := Lib.hid (And.intro hr1 (And.intro hr2 hr3))
          clear hr1 hr2 hr3
          go_wp2_with fail
          go_ret
          exact ⟨rfl, HR.out.1, HR.out.2.1, HA.out.on HR.out.2.2⟩
      · have n34 := hc
        clear hc
        by_cases hc : y = 36
        · skip
          have HE := Lib.hid (show Calls Tryz.prog 125 #[.pointer (some ⟨X, 0, none⟩), .pointer (some ⟨W, 0, none⟩), .int .i64 (depth : Int), .bool false] (w.alloc (DB depth)) fun e w' => RowEnd (w.alloc (DB depth)) w' e X G sz B W (partM br (decide (0 < depth)) xs ps) by
            rw [show partM br (decide (0 < depth)) xs ps = dollarM br false xs ps by unfold partM; rw [if_neg (by rw [hy]; exact n92), if_neg (by rw [hy]; exact n39), if_neg (by rw [hy]; exact n34), if_pos (by rw [hy]; exact hc)]]
            exact hD _ X G sz B W xs ps h hf false)
          rw [hy, hc] at HN
          obtain ⟨M, hM⟩ : ∃ M, partM br (decide (0 < depth)) xs ps = M := ⟨_, rfl⟩
          rw [hM] at HE ⊢
          clear h hf hM h0 hb hD hx hy hc hb1 hA hcell hXw hW1 n92 n39 n34
          go_enter Tryz.func101, Tryz.ntmps101
          go_wp2_with (go_at_call 72; refine HN.out.mono ?_; rintro e w1 ⟨rfl, rfl⟩; simp only [DB])
          refine HE.out.mono ?_
          intro e w2 hE
          cases M with
          | error cc =>
            obtain ⟨hcc, rfl, hk⟩ := hE
            have HR := Lib.hid (And.intro hcc hk)
            clear hcc hk
            go_wp2_with fail
            go_ret
            exact ⟨HR.out.1, rfl, HA.out.on HR.out.2⟩
          | ok a =>
            obtain ⟨qs, r⟩ := a
            obtain ⟨rfl, hr1, hr2, hr3⟩ := hE
            have HR := Lib.hid (And.intro hr1 (And.intro hr2 hr3))
            clear hr1 hr2 hr3
            go_wp2_with fail
            go_ret
            exact ⟨rfl, HR.out.1, HR.out.2.1, HA.out.on HR.out.2.2⟩
        · have n36 := hc
          clear hc
          have HM := Lib.hid (show partM br (decide (0 < depth)) xs ps = .ok (lit ps (enc (got (fun r => begins r || ends r (decide (0 < depth))) xs)) false, left (fun r => begins r || ends r (decide (0 < depth))) xs) by unfold partM; rw [if_neg (by rw [hy]; exact n92), if_neg (by rw [hy]; exact n39), if_neg (by rw [hy]; exact n34), if_neg (by rw [hy]; exact n36)])
          have HTL := Lib.hid (till_any (stops_part w.heap.size depth) h.rd (fun W2 hk => hk.cell hcell (fun e => by simp only at e; omega)))
          have HL := Lib.hid (show (enc (got (fun r => begins r || ends r (decide (0 < depth))) xs)).length ≤ 16000 from enc_short (xs := xs) (by have := got_length (fun r => begins r || ends r (decide (0 < depth))) xs; omega) h.rd.few)
          have HI := Lib.hid h
          have HF := Lib.hid hf
          rw [hy] at HN
          have y0 : ((y : Int) == 92) = false := neq_of n92
          have y1 : ((y : Int) == 39) = false := neq_of n39
          have y2 : ((y : Int) == 34) = false := neq_of n34
          have y3 : ((y : Int) == 36) = false := neq_of n36
          obtain ⟨g, hg⟩ : ∃ g, got (fun r => begins r || ends r (decide (0 < depth))) xs = g := ⟨_, rfl⟩
          obtain ⟨l, hl⟩ : ∃ l, left (fun r => begins r || ends r (decide (0 < depth))) xs = l := ⟨_, rfl⟩
          rw [hg, hl] at HTL HM
          rw [hg] at HL
          clear h hf h0 hb hD hx hy hb1 hA hcell hXw hW1 n92 n39 n34 n36 hg hl
          go_enter Tryz.func101, Tryz.ntmps101
          go_wp2_with (first
            | (go_at_call 72; refine HN.out.mono ?_; rintro e w1 ⟨rfl, rfl⟩; simp only [DB])
            | (go_at_call 70; refine HTL.out.mono ?_; rintro e w2 ⟨rfl, hs2⟩; have HS2 := Lib.hid hs2; clear hs2; have HP := Lib.hid (lit_any (HI.out.step HS2.out).row HF.out (enc g) HL.out false))
            | (go_at_call 126; refine HP.out.mono ?_; rintro e w3 ⟨rfl, hr3, hk3⟩; have HR3 := Lib.hid (And.intro hr3 hk3); clear hr3 hk3))
          go_ret
          rw [HM.out]
          exact ⟨rfl, ((HI.out.step HS2.out).put HR3.out.1 HR3.out.2).rd, HR3.out.1, (HA.out.on HS2.out.2.wide).on HR3.out.2.wideB⟩

/-- What parts is doing. -/
structure PtAt (w wr : World) (X G sz W : Nat) (br : List Nat → Res Pt) (deep : Bool) (M : Res (List Pt)) (f : Nat) (ys : List Nat) (qs : List Pt) : Prop where
  inn : RowIn wr X G sz w.heap.size W ys qs
  fits : Fits ys qs
  kept : Kept (fun k => k = X ∨ w.heap.size ≤ k) w wr
  said : partsL br deep f ys qs = M
  fuel : ys.length < f

/-- Only the reader has turned of what there was. -/
theorem Kept.mine {w wr : World} {X : Nat} (h : Kept (fun k => k = X ∨ w.heap.size ≤ k) w wr) : Kept (fun k => k = X) w wr :=
  ⟨h.os, h.tape, h.output, h.size, fun k hk hn => h.block k hk fun e => e.elim hn fun e => by omega⟩

set_option maxHeartbeats 1000000 in
theorem parts_any {depth : Nat} {br : List Nat → Res Pt} (hb : BraceOk br) (hD : DollarDo depth br) : PartsDo depth (fun xs => partsL br (decide (0 < depth)) (xs.length + 1) xs []) := by
  intro w X G sz xs h
  have HRD := Lib.hid h
  have HB := Lib.hid hb
  have HD := Lib.hid hD
  obtain ⟨M, hM⟩ : ∃ M, partsL br (decide (0 < depth)) (xs.length + 1) xs [] = M := ⟨_, rfl⟩
  show Calls Tryz.prog 75 #[.pointer (some ⟨X, 0, none⟩), .int .i64 (depth : Int)] w fun e w' => PartsEnd w w' e X G sz (partsL br (decide (0 < depth)) (xs.length + 1) xs [])
  rw [hM]
  have HM := Lib.hid hM
  clear h hb hD hM
  go_enter Tryz.func75, Tryz.ntmps75
  go_wp2_with fail
  go_loopw [] (fun wr => ∃ f ys qs, PtAt w wr X G sz w.heap.size br (decide (0 < depth)) M f ys qs) (fun wr => lenAt wr X)
  case atStart =>
    have hb1 : Below w.heap.size w (w.alloc (.cells #[.slice none 0 0] 151)) := (Below.refl _ w).alloc (Nat.le_refl _) _
    exact ⟨_, xs, [], ⟨HRD.out.below hb1, RowAt.new w, HRD.out.lt.1, HRD.out.lt.2⟩, Fits.nil _ (by have := HRD.out.few; omega), Kept.of_below hb1, HM.out, by omega⟩
  case round =>
    obtain ⟨f, ys, qs, hA⟩ := hrel
    have HR := Lib.hid hA
    obtain ⟨f, rfl⟩ : ∃ g, f = g + 1 := ⟨f - 1, by have := hA.fuel; omega⟩
    clear hA
    have HN := Lib.hid (next_any HR.out.inn.rd)
    cases ys with
    | nil =>
      obtain ⟨v, vs, F, ho⟩ := HR.out.inn.row
      obtain ⟨a, c, hv⟩ := ho.shape
      subst hv
      have c0 := ho.cell0
      have HO := Lib.hid ho
      clear ho
      go_wp2_with (go_at_call 72; refine HN.out.mono ?_; rintro e w1 ⟨rfl, rfl⟩; rw [next_nil])
      go_ret2
      rw [← HR.out.said, partsL, if_pos (.inl rfl)]
      exact ⟨_, rfl, HO.out.word, HR.out.inn.rd, HR.out.kept.mine⟩
    | cons c r =>
      have hg := HR.out.inn.rd.good c (by simp)
      have hx : ((c : Int) != 0) = true := by
        have := hg.1
        have : ¬ (c : Int) = 0 := by omega
        simpa using this
      have hn0 : next (c :: r) ≠ 0 := by have := hg.1; rw [next_cons]; omega
      have HN0 := Lib.hid hn0
      obtain ⟨b, hb⟩ : ∃ b, ends c (decide (0 < depth)) = b := ⟨_, rfl⟩
      have HE := Lib.hid (fun W => by have := ends_any c depth (.inr hg) W; rw [hb] at this; exact this)
      have HBB := Lib.hid hb
      clear hg hn0 hb
      cases b with
      | true =>
        go_wp2_with (first
          | (go_at_call 72; refine HN.out.mono ?_; rintro e w1 ⟨rfl, rfl⟩; rw [next_cons])
          | (go_at_call 100; refine (HE.out _).mono ?_; rintro e w2 ⟨rfl, hb2⟩; have HI2 := Lib.hid (HR.out.inn.below hb2); have HK2 := Lib.hid (HR.out.kept.on (Kept.of_below hb2)); clear hb2; obtain ⟨v, vs, F, ho⟩ := HI2.out.row; obtain ⟨a, cp, hv⟩ := ho.shape; subst hv; have c0 := ho.cell0; have HO := Lib.hid ho; clear ho))
        go_ret2
        rw [← HR.out.said, partsL, if_pos (.inr HBB.out)]
        exact ⟨_, rfl, HO.out.word, HI2.out.rd, HK2.out.mine⟩
      | false =>
        obtain ⟨mw, hmw⟩ : ∃ mw, partM br (decide (0 < depth)) (c :: r) qs = mw := ⟨_, rfl⟩
        have HMW := Lib.hid hmw
        clear hmw
        go_wp2_with (first
          | (go_at_call 72; refine HN.out.mono ?_; rintro e w1 ⟨rfl, rfl⟩; rw [next_cons])
          | (go_at_call 100; refine (HE.out _).mono ?_; rintro e w2 ⟨rfl, hb2⟩; have HI2 := Lib.hid (HR.out.inn.below hb2); have HK2 := Lib.hid (HR.out.kept.on (Kept.of_below hb2)); clear hb2))
        have hp := part_any HB.out HD.out HI2.out HR.out.fits (by simp)
        rw [HMW.out] at hp
        refine hp.mono ?_
        cases mw with
        | error cc =>
          rintro e w5 ⟨hcc, rfl, hk5⟩
          have H5 := Lib.hid (And.intro hcc hk5)
          have hc0 : (((cc : Nat) : Int) != 0) = true := by rcases hcc with rfl | rfl <;> rfl
          clear hcc hk5 hp
          go_wp2_with fail
          go_ret2
          rw [← HR.out.said, partsL, if_neg (fun e => e.elim HN0.out fun e => by rw [next_cons, HBB.out] at e; cases e)]
          rw [HMW.out]
          exact ⟨H5.out.1, rfl, (HK2.out.on H5.out.2).mine⟩
        | ok a =>
          obtain ⟨qs', ys'⟩ := a
          rintro e w5 ⟨rfl, hr5, hro5, hk5⟩
          have H5 := Lib.hid (And.intro hr5 (And.intro hro5 hk5))
          clear hr5 hro5 hk5 hp
          go_wp2_with fail
          obtain ⟨l1, l2⟩ := part_less HB.out HMW.out HN0.out (by rw [next_cons]; exact HBB.out)
          go_roundw
          case rel =>
            refine ⟨f, ys', qs', ⟨H5.out.1, H5.out.2.1, HR.out.inn.hX, HR.out.inn.hG⟩, l2 HR.out.fits, HK2.out.on H5.out.2.2, ?_, by have := HR.out.fuel; have := l1.2; omega⟩
            rw [← HR.out.said, partsL, if_neg (fun e => e.elim HN0.out fun e => by rw [next_cons, HBB.out] at e; cases e)]
            rw [HMW.out]
          case measure =>
            have e1 := H5.out.1.lenAt
            have e2 := HR.out.inn.rd.lenAt
            have := l1.2
            simp only [e1, e2]
            omega
end Go.Proofs.YtakceggnadagmaaGreatDoor

namespace Go.Proofs.YtakceggnadagmaaGreatDoor
open Go Go.RowKit GlyphMath LexMath

set_option maxHeartbeats 1000000 in
set_option maxRecDepth 100000 in
theorem dollar_A {depth : Nat} {br : List Nat → Res Pt} (hb : BraceDo depth br) {w : World} {X G sz B W : Nat} {xs r : List Nat} {ps : List Pt} (h : RowIn w X G sz B W xs ps) (hf : Fits xs ps) (q : Bool) (ht : takes [123] xs.tail = some r) :
    Calls Tryz.prog 125 #[.pointer (some ⟨X, 0, none⟩), .pointer (some ⟨W, 0, none⟩), .int .i64 (depth : Int), .bool q] w fun e w' => RowEnd w w' e X G sz B W (dollarM br q xs ps) := by
  have HT := Lib.hid (take_any h.rd)
  have HI := Lib.hid h
  have HNN := Lib.hid (show ps.length ≤ 4000 by have := hf.1; omega)
  obtain ⟨i0, hi0, hz0, hz1, hz2⟩ := info_parts infoPart
  have HIN := Lib.hid (And.intro hi0 (And.intro hz0 (And.intro hz1 hz2)))
  obtain ⟨n, hn⟩ : ∃ n, ps.length = n := ⟨_, rfl⟩
  have HN := Lib.hid hn
  have hn0 : (0 : Int) ≤ (n : Int) := by omega
  have hn1 : (n : Int) ≤ 4000 := by have := HNN.out; omega
  have hn2 : (n : Int) < (n : Int) + 1 := by omega
  have HB := Lib.hid hb
  have HTT0 := Lib.hid ht
  obtain ⟨m, hm⟩ : ∃ m, br r = m := ⟨_, rfl⟩
  have HMM := Lib.hid hm
  have HM := Lib.hid (show dollarM br q xs ps = partEnd ps q m by rw [dollar_brace ht, hm])
  clear h hf hb ht hm hn hi0 hz0 hz1 hz2
  cases m with
  | error cc =>
    go_enter Tryz.func125, Tryz.ntmps125
    go_wp2_with fail
    refine HT.out.mono ?_
    rintro e w1 ⟨rfl, hs1⟩
    have hI1 := HI.out.step hs1
    obtain ⟨v, vs, F, ho⟩ := hI1.row
    obtain ⟨a, c, hv⟩ := ho.shape
    rw [HN.out] at hv
    subst hv
    have hr1 : Rd (w1.alloc ZB) X G sz xs.tail := hs1.1.below ((Below.refl _ w1).alloc (Nat.le_refl _) _)
    have HR1 := Lib.hid hr1
    have HX := Lib.hid (show X < w1.heap.size ∧ G < w1.heap.size by have := ho.lt; have := ho.base; have := HI.out.hX; have := HI.out.hG; omega)
    have HOW := Lib.hid ho
    have HK0 := Lib.hid (show Kept (fun k => k = X ∨ B ≤ k) w w1 from hs1.2.wide)
    have HV := Lib.hid (show B ≤ w1.heap.size by have := ho.lt; have := ho.base; omega)
    clear hs1 hI1 ho hr1
    go_wp2_with fail
    refine (takesM HR1.out ⟨#[123]⟩ [123] rfl (by decide) HTT0.out).mono ?_
    rintro e w2 ⟨rfl, hs⟩
    simp only [Option.getD_some] at hs
    have HS := Lib.hid hs
    clear hs
    go_wp2_with fail
    have hx := HX.out
    have hk2 : Kept (fun k => k = X ∨ w1.heap.size ≤ k) w1 w2 := (Kept.of_below ((Below.refl _ w1).alloc (Nat.le_refl _) ZB)).on (HS.out.2.mono fun _ _ h => .inl h)
    have HK2 := Lib.hid hk2
    have HK1 := Lib.hid (show Kept (fun k => k = X ∨ B ≤ k) w w2 from HK0.out.trans hk2 fun i e => .inl (e.elim .inl fun e => .inr (by have := HV.out; omega)))
    have HVC := Lib.hid (show w2.heap[w1.heap.size]? = some ZB from HS.out.2.heap (heap_alloc_new w1 ZB) (fun e => by omega))
    have hvlt : w1.heap.size < w2.heap.size := (Array.getElem?_eq_some_iff.1 HVC.out).1
    have hcall := HB.out w2 X G sz r HS.out.1
    rw [HMM.out] at hcall
    have HCALL := Lib.hid hcall
    clear hx hk2 hcall
    refine HCALL.out.mono ?_
    rintro e w3 ⟨hcc, ⟨p, rfl⟩, hk3⟩
    obtain ⟨T1, hT1⟩ : ∃ T : ByteArray, txt p.text = .string T := ⟨_, rfl⟩
    obtain ⟨T2, hT2⟩ : ∃ T : ByteArray, txt p.op = .string T := ⟨_, rfl⟩
    rw [show partV p zeroV = .agg #[.int .i64 p.kind, .string T1, .string T2, .slice none 0 0, .bool p.q] by rw [partV, hT1, hT2]; rfl]
    have hx := HX.out
    have v3 := hk3.heap HVC.out (fun e => by omega)
    have H3 := Lib.hid (And.intro v3 (And.intro hcc hk3))
    have hc0 : (((cc : Nat) : Int) != 0) = true := by rcases hcc with rfl | rfl <;> rfl
    clear v3 hk3 hcc hx hT1 hT2
    go_wp2_with (refine wpList_store_mid (by rfl) 113 (.tmp 9) (.tmp 22) (by rfl) w1.heap.size 0 #[.int .i64 p.kind, .string T1, .string T2, .slice none 0 0, .bool p.q] (by rfl) (by rfl) (five_there H3.out.1) part_info (by simp [Value.oneCell']) ?_; obtain ⟨w4, hw4⟩ : ∃ w4, w4 = w3.setCells w1.heap.size 0 (#[.int .i64 p.kind, .string T1, .string T2, .slice none 0 0, .bool p.q] : Array Value).toList := ⟨_, rfl⟩; rw [← hw4]; obtain ⟨y1, y2, y3⟩ := five_stored H3.out.1 hw4; have HY := Lib.hid y2; clear y1 y2 y3 hw4)
    go_ret
    rw [HM.out]
    refine ⟨H3.out.2.1, rfl, ?_⟩
    have hv := HV.out
    exact (HK1.out.on H3.out.2.2.wide).trans HY.out fun i e => .inl (.inr (by omega))
  | ok bb =>
    obtain ⟨p, r'⟩ := bb
    go_enter Tryz.func125, Tryz.ntmps125
    go_wp2_with fail
    refine HT.out.mono ?_
    rintro e w1 ⟨rfl, hs1⟩
    have hI1 := HI.out.step hs1
    obtain ⟨v, vs, F, ho⟩ := hI1.row
    obtain ⟨a, c, hv⟩ := ho.shape
    rw [HN.out] at hv
    subst hv
    have hr1 : Rd (w1.alloc ZB) X G sz xs.tail := hs1.1.below ((Below.refl _ w1).alloc (Nat.le_refl _) _)
    have HR1 := Lib.hid hr1
    have HX := Lib.hid (show X < w1.heap.size ∧ G < w1.heap.size by have := ho.lt; have := ho.base; have := HI.out.hX; have := HI.out.hG; omega)
    have HOW := Lib.hid ho
    have HK0 := Lib.hid (show Kept (fun k => k = X ∨ B ≤ k) w w1 from hs1.2.wide)
    have HV := Lib.hid (show B ≤ w1.heap.size by have := ho.lt; have := ho.base; omega)
    clear hs1 hI1 ho hr1
    go_wp2_with fail
    refine (takesM HR1.out ⟨#[123]⟩ [123] rfl (by decide) HTT0.out).mono ?_
    rintro e w2 ⟨rfl, hs⟩
    simp only [Option.getD_some] at hs
    have HS := Lib.hid hs
    clear hs
    go_wp2_with fail
    have hx := HX.out
    have hk2 : Kept (fun k => k = X ∨ w1.heap.size ≤ k) w1 w2 := (Kept.of_below ((Below.refl _ w1).alloc (Nat.le_refl _) ZB)).on (HS.out.2.mono fun _ _ h => .inl h)
    have HK2 := Lib.hid hk2
    have HK1 := Lib.hid (show Kept (fun k => k = X ∨ B ≤ k) w w2 from HK0.out.trans hk2 fun i e => .inl (e.elim .inl fun e => .inr (by have := HV.out; omega)))
    have HVC := Lib.hid (show w2.heap[w1.heap.size]? = some ZB from HS.out.2.heap (heap_alloc_new w1 ZB) (fun e => by omega))
    have hvlt : w1.heap.size < w2.heap.size := (Array.getElem?_eq_some_iff.1 HVC.out).1
    have hcall := HB.out w2 X G sz r HS.out.1
    rw [HMM.out] at hcall
    have HCALL := Lib.hid hcall
    clear hx hk2 hcall
    refine HCALL.out.mono ?_
    rintro e w3 ⟨u, rfl, hwn, hr3, hk3⟩
    obtain ⟨T1, hT1⟩ : ∃ T : ByteArray, txt p.text = .string T := ⟨_, rfl⟩
    obtain ⟨T2, hT2⟩ : ∃ T : ByteArray, txt p.op = .string T := ⟨_, rfl⟩
    obtain ⟨ad, cp, hu⟩ := hwn.shape
    obtain ⟨np, hnp⟩ : ∃ np, p.word.length = np := ⟨_, rfl⟩
    rw [hnp] at hu
    subst hu
    rw [show partV p (.slice ad np cp) = .agg #[.int .i64 p.kind, .string T1, .string T2, .slice ad np cp, .bool p.q] by rw [partV, hT1, hT2]]
    have hx := HX.out
    have v3 := hk3.heap HVC.out (fun e => by omega)
    have H3 := Lib.hid (And.intro v3 (And.intro hwn (And.intro hr3 hk3)))
    have HTT := Lib.hid (And.intro hT1 hT2)
    clear v3 hk3 hwn hr3 hx hT1 hT2 hnp
    go_wp2_with (refine wpList_store_mid (by rfl) 113 (.tmp 9) (.tmp 22) (by rfl) w1.heap.size 0 #[.int .i64 p.kind, .string T1, .string T2, .slice ad np cp, .bool p.q] (by rfl) (by rfl) (five_there H3.out.1) part_info (by simp [Value.oneCell']) ?_; obtain ⟨w4, hw4⟩ : ∃ w4, w4 = w3.setCells w1.heap.size 0 (#[.int .i64 p.kind, .string T1, .string T2, .slice ad np cp, .bool p.q] : Array Value).toList := ⟨_, rfl⟩; rw [← hw4]; obtain ⟨y1, y2, y3⟩ := five_stored H3.out.1 hw4; obtain ⟨d0, d1, d2, d3, d4⟩ := five_cells y1; have f4 := five_free y1 4; have HY := Lib.hid (And.intro y1 y2); clear y1 y2 y3 hw4)
    obtain ⟨w9, hw9⟩ : ∃ w9, w4.setCell ⟨w1.heap.size, 4, none⟩ (.bool q) = w9 := ⟨_, rfl⟩
    rw [hw9]
    obtain ⟨y1, y2⟩ := HY.out
    obtain ⟨v3, hwn, hr3, hk3⟩ := H3.out
    have hx := HX.out
    have hv := HV.out
    have kv : Kept (fun k => k = w1.heap.size) w3 w9 := by rw [← hw9]; exact y2.on (Kept.setCell (D := fun k => k = w1.heap.size) (Kept.refl _ _) (.inl rfl) _)
    have hvar : w9.heap[w1.heap.size]? = some (PB { p with q := q } T1 T2 (.slice ad np cp)) := by rw [← hw9]; exact heap_setCell_same w4 w1.heap.size 4 _ _ (.bool q) y1
    have hk19 : Kept (fun k => k = X ∨ w1.heap.size ≤ k) w1 w9 := (HK2.out.on (hk3.mono fun _ _ h => .inl h)).on (kv.mono fun k _ e => .inr (by omega))
    have hah := ahead_of (w0 := w) (q := q) HOW.out HI.out.hX HI.out.hG HK0.out hk19 (hr3.kept kv (by omega) (by omega)) ((hwn.kept kv (fun k hk e => by omega)).base (by omega)) hvar HTT.out.1 HTT.out.2
    have AH := Lib.hid hah
    have c0 := hah.row.cell0
    have g0 := hah.row.frozen0
    have cA : ∀ o1, (w9.alloc o1).cell? ⟨W, 0, none⟩ = some (.slice a n c) := fun o1 => (World.cell?_alloc_lt _ _ _ hah.row.lt).trans c0
    obtain ⟨e0, e1, e2, e3, e4⟩ := five_cells hvar
    have vlt : w1.heap.size < w9.heap.size := (Array.getElem?_eq_some_iff.1 hvar).1
    have q0 : ∀ o1, (w9.alloc o1).cell? ⟨w1.heap.size, 0, none⟩ = some (.int .i64 p.kind) := fun o1 => (World.cell?_alloc_lt _ _ _ vlt).trans e0
    have q1 : ∀ o1, (w9.alloc o1).cell? ⟨w1.heap.size, 1, none⟩ = some (.string T1) := fun o1 => (World.cell?_alloc_lt _ _ _ vlt).trans e1
    have q2 : ∀ o1, (w9.alloc o1).cell? ⟨w1.heap.size, 2, none⟩ = some (.string T2) := fun o1 => (World.cell?_alloc_lt _ _ _ vlt).trans e2
    have q3 : ∀ o1, (w9.alloc o1).cell? ⟨w1.heap.size, 3, none⟩ = some (.slice ad np cp) := fun o1 => (World.cell?_alloc_lt _ _ _ vlt).trans e3
    have q4 : ∀ o1, (w9.alloc o1).cell? ⟨w1.heap.size, 4, none⟩ = some (.bool q) := fun o1 => (World.cell?_alloc_lt _ _ _ vlt).trans e4
    have ho := hah.row.own
    rw [HN.out] at ho
    have HO := Lib.hid ho
    have HC := Lib.hid (show n + 1 ≤ maxLen ∧ (n + 1) * 72 ≤ 140737488355328 ∧ B ≤ w9.heap.size from ⟨by have := HNN.out; unfold maxLen; omega, by have := HNN.out; omega, by have := hah.row.lt; have := hah.row.base; omega⟩)
    clear hah hvar hk19 kv hx hv vlt ho y1 y2 v3 hwn hr3 hk3 hw9 d0 d1 d2 d3 d4 f4
    go_wp2_with fail
    go_region_law (refine step_append_lies _ (by rfl) (.tmp 54) (.tmp 57) 68 (by rfl) B 113 i0 (.agg zeroPart) 5 72 Tryz.underlying68 HIN.out.1 HIN.out.2.1 HIN.out.2.2.1 HIN.out.2.2.2 (by rfl) (by decide) _ _ _ (by rfl) ((HO.out.alloc _)) ⟨w9.heap.size, 0, none⟩ 1 1 zeroPart.toList (by rfl) (by rfl) (new_block w9 _ _) (by decide) (by decide) HC.out.1 HC.out.2.1 (by have := HC.out.2.2; simp; omega) (w9.heap.size + 1) (by simp) ?_; intro g cap wa hown hgrow hat hlt; have HG := Lib.hid (show Grown w9 wa B W _ vs ps g cap from ⟨by rw [HN.out]; exact hown, hgrow, hat, hlt⟩); obtain ⟨z0, z1, z2, z3, z4⟩ := HG.out.facts AH.out.row; have k0 := z3 0 (by decide); have k1 := z3 1 (by decide); have k2 := z3 2 (by decide); have k3 := z3 3 (by decide); have k4 := z3 4 (by decide); have j0 := z4 (n * 5); have j1 := z4 (n * 5 + 1); have j2 := z4 (n * 5 + 2); have j3 := z4 (n * 5 + 3); have j4 := z4 (n * 5 + 4); rw [HN.out] at k0 k1 k2 k3 k4; simp [zeroPart] at k0 k1 k2 k3 k4; clear hown hgrow hat hlt z3 z4)
    all_goals
      go_wp2_with fail
      go_ret
      rw [HM.out]
      refine ⟨rfl, AH.out.done ?_⟩
      first
        | (with_reducible refine Grown.putA (ps := ps) AH.out.row HG.out { p with q := q } (.slice ad np cp) AH.out.sub ?_ ?_ ?_ ?_ ?_ ?_ ?_ ?_) <;> first | rfl | (rw [HN.out]) | (simp only [pcells, AH.out.txtT, AH.out.txtO])
        | (with_reducible refine Grown.putB (ps := ps) AH.out.row HG.out { p with q := q } (.slice ad np cp) AH.out.sub ?_ ?_ ?_ ?_ ?_ ?_ ?_ ?_) <;> first | rfl | (rw [HN.out]) | (simp only [pcells, AH.out.txtT, AH.out.txtO])
end Go.Proofs.YtakceggnadagmaaGreatDoor
