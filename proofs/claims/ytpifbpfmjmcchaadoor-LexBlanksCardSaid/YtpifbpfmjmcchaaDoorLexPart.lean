/-
  Proved: the contracts of part and parts, of whatever dollar. Conditions: the reader and the row lie in memory.
-/
import Derived.Test.YtpifbpfmjmcchaaDoorLexDouble
namespace Go.Proofs.YtpifbpfmjmcchaaDoor
open Go Go.RowKit GlyphMath LexMath

def DB (n : Nat) : Obj := .cells #[.int .i64 (n : Int)] 3

set_option maxHeartbeats 1000000 in
theorem part_any {depth : Nat} {br : List Nat → Res Pt} (hb : BraceOk br) (hD : DollarDo depth br) {w : World} {X G sz B W : Nat} {xs : List Nat} {ps : List Pt} (h0 : RowIn w X G sz B W xs ps) (hf : Fits xs ps) (hx : xs ≠ []) :
    Calls Tryd.prog 44 #[.pointer (some ⟨X, 0, none⟩), .pointer (some ⟨W, 0, none⟩), .int .i64 (depth : Int)] w fun e w' => RowEnd w w' e X G sz B W (partM br (decide (0 < depth)) xs ps) := by
  have hb1 : Below w.heap.size w (w.alloc (DB depth)) := (Below.refl _ w).alloc (Nat.le_refl _) _
  have hA : Kept (fun k => k = X ∨ B ≤ k) w (w.alloc (DB depth)) := Kept.of_below hb1
  have HA := Lib.hid hA
  have h := h0.below hb1
  have HN := Lib.hid (next_any h.rd)
  have hcell : (w.alloc (DB depth)).cell? ⟨w.heap.size, 0, none⟩ = some (.int .i64 (depth : Int)) := by rw [cell_plain (heap_alloc_new w (DB depth))]; rfl
  have HCELL := Lib.hid hcell
  have hXw : X < w.heap.size := h0.rd.lt.1
  have HXW := Lib.hid hXw
  obtain ⟨W1, hW1⟩ : ∃ W1, w.alloc (DB depth) = W1 := ⟨_, rfl⟩
  obtain ⟨y, hy⟩ : ∃ y, next xs = y := ⟨_, rfl⟩
  by_cases hc : y = 92
  · skip
    have HE := Lib.hid (show Calls Tryd.prog 55 #[.pointer (some ⟨X, 0, none⟩), .pointer (some ⟨W, 0, none⟩)] (w.alloc (DB depth)) fun e w' => RowEnd (w.alloc (DB depth)) w' e X G sz B W (partM br (decide (0 < depth)) xs ps) by
      rw [show partM br (decide (0 < depth)) xs ps = escapedM xs ps by unfold partM; rw [if_pos (by rw [hy]; exact hc)]]
      exact escaped_any h hf)
    rw [hy, hc] at HN
    obtain ⟨M, hM⟩ : ∃ M, partM br (decide (0 < depth)) xs ps = M := ⟨_, rfl⟩
    rw [hM] at HE ⊢
    clear h hf hM h0 hb hD hx hy hc hb1 hA hcell hXw hW1
    go_enter Tryd.func44, Tryd.ntmps44
    go_wp2_with (go_at_call 26; refine HN.out.mono ?_; rintro e w1 ⟨rfl, rfl⟩; simp only [DB])
    refine HE.out.mono ?_
    intro e w2 hE
    cases M with
    | error cc =>
      obtain ⟨hcc, rfl, hk⟩ := hE
      have HR := Lib.hid (And.intro hcc hk)
      clear hcc hk
      go_wp2_with fail
      go_ret
      exact ⟨HR.out.1, rfl, HA.out.on HR.out.2⟩
    | ok a =>
      obtain ⟨qs, r⟩ := a
      obtain ⟨rfl, hr1, hr2, hr3⟩ := hE
      have HR := Lib.hid (And.intro hr1 (And.intro hr2 hr3))
      clear hr1 hr2 hr3
      go_wp2_with fail
      go_ret
      exact ⟨rfl, HR.out.1, HR.out.2.1, HA.out.on HR.out.2.2⟩
  · have n92 := hc
    clear hc
    by_cases hc : y = 39
    · skip
      have HE := Lib.hid (show Calls Tryd.prog 56 #[.pointer (some ⟨X, 0, none⟩), .pointer (some ⟨W, 0, none⟩)] (w.alloc (DB depth)) fun e w' => RowEnd (w.alloc (DB depth)) w' e X G sz B W (partM br (decide (0 < depth)) xs ps) by
        rw [show partM br (decide (0 < depth)) xs ps = singleM xs ps by unfold partM; rw [if_neg (by rw [hy]; exact n92), if_pos (by rw [hy]; exact hc)]]
        exact single_any h hf)
      rw [hy, hc] at HN
      obtain ⟨M, hM⟩ : ∃ M, partM br (decide (0 < depth)) xs ps = M := ⟨_, rfl⟩
      rw [hM] at HE ⊢
      clear h hf hM h0 hb hD hx hy hc hb1 hA hcell hXw hW1 n92
      go_enter Tryd.func44, Tryd.ntmps44
      go_wp2_with (go_at_call 26; refine HN.out.mono ?_; rintro e w1 ⟨rfl, rfl⟩; simp only [DB])
      refine HE.out.mono ?_
      intro e w2 hE
      cases M with
      | error cc =>
        obtain ⟨hcc, rfl, hk⟩ := hE
        have HR := Lib.hid (And.intro hcc hk)
        clear hcc hk
        go_wp2_with fail
        go_ret
        exact ⟨HR.out.1, rfl, HA.out.on HR.out.2⟩
      | ok a =>
        obtain ⟨qs, r⟩ := a
        obtain ⟨rfl, hr1, hr2, hr3⟩ := hE
        have HR := Lib.hid (And.intro hr1 (And.intro hr2 hr3))
        clear hr1 hr2 hr3
        go_wp2_with fail
        go_ret
        exact ⟨rfl, HR.out.1, HR.out.2.1, HA.out.on HR.out.2.2⟩
    · have n39 := hc
      clear hc
      by_cases hc : y = 34
      · skip
        have HE := Lib.hid (show Calls Tryd.prog 57 #[.pointer (some ⟨X, 0, none⟩), .pointer (some ⟨W, 0, none⟩), .int .i64 (depth : Int)] (w.alloc (DB depth)) fun e w' => RowEnd (w.alloc (DB depth)) w' e X G sz B W (partM br (decide (0 < depth)) xs ps) by
          rw [show partM br (decide (0 < depth)) xs ps = doubleM br xs ps by unfold partM; rw [if_neg (by rw [hy]; exact n92), if_neg (by rw [hy]; exact n39), if_pos (by rw [hy]; exact hc)]]
          exact double_any hb hD h hf hx)
        rw [hy, hc] at HN
        obtain ⟨M, hM⟩ : ∃ M, partM br (decide (0 < depth)) xs ps = M := ⟨_, rfl⟩
        rw [hM] at HE ⊢
        clear h hf hM h0 hb hD hx hy hc hb1 hA hcell hXw hW1 n92 n39
        go_enter Tryd.func44, Tryd.ntmps44
        go_wp2_with (go_at_call 26; refine HN.out.mono ?_; rintro e w1 ⟨rfl, rfl⟩; simp only [DB])
        refine HE.out.mono ?_
        intro e w2 hE
        cases M with
        | error cc =>
          obtain ⟨hcc, rfl, hk⟩ := hE
          have HR := Lib.hid (And.intro hcc hk)
          clear hcc hk
          go_wp2_with fail
          go_ret
          exact ⟨HR.out.1, rfl, HA.out.on HR.out.2⟩
        | ok a =>
          obtain ⟨qs, r⟩ := a
          obtain ⟨rfl, hr1, hr2, hr3⟩ := hE
          have HR := Lib.hid (And.intro hr1 (And.intro hr2 hr3))
          clear hr1 hr2 hr3
          go_wp2_with fail
          go_ret
          exact ⟨rfl, HR.out.1, HR.out.2.1, HA.out.on HR.out.2.2⟩
      · have n34 := hc
        clear hc
        by_cases hc : y = 36
        · skip
          have HE := Lib.hid (show Calls Tryd.prog 58 #[.pointer (some ⟨X, 0, none⟩), .pointer (some ⟨W, 0, none⟩), .int .i64 (depth : Int), .bool false] (w.alloc (DB depth)) fun e w' => RowEnd (w.alloc (DB depth)) w' e X G sz B W (partM br (decide (0 < depth)) xs ps) by
            rw [show partM br (decide (0 < depth)) xs ps = dollarM br false xs ps by unfold partM; rw [if_neg (by rw [hy]; exact n92), if_neg (by rw [hy]; exact n39), if_neg (by rw [hy]; exact n34), if_pos (by rw [hy]; exact hc)]]
            exact hD _ X G sz B W xs ps h hf false)
          rw [hy, hc] at HN
          obtain ⟨M, hM⟩ : ∃ M, partM br (decide (0 < depth)) xs ps = M := ⟨_, rfl⟩
          rw [hM] at HE ⊢
          clear h hf hM h0 hb hD hx hy hc hb1 hA hcell hXw hW1 n92 n39 n34
          go_enter Tryd.func44, Tryd.ntmps44
          go_wp2_with (go_at_call 26; refine HN.out.mono ?_; rintro e w1 ⟨rfl, rfl⟩; simp only [DB])
          refine HE.out.mono ?_
          intro e w2 hE
          cases M with
          | error cc =>
            obtain ⟨hcc, rfl, hk⟩ := hE
            have HR := Lib.hid (And.intro hcc hk)
            clear hcc hk
            go_wp2_with fail
            go_ret
            exact ⟨HR.out.1, rfl, HA.out.on HR.out.2⟩
          | ok a =>
            obtain ⟨qs, r⟩ := a
            obtain ⟨rfl, hr1, hr2, hr3⟩ := hE
            have HR := Lib.hid (And.intro hr1 (And.intro hr2 hr3))
            clear hr1 hr2 hr3
            go_wp2_with fail
            go_ret
            exact ⟨rfl, HR.out.1, HR.out.2.1, HA.out.on HR.out.2.2⟩
        · have n36 := hc
          clear hc
          have HM := Lib.hid (show partM br (decide (0 < depth)) xs ps = .ok (lit ps (enc (got (fun r => begins r || ends r (decide (0 < depth))) xs)) false, left (fun r => begins r || ends r (decide (0 < depth))) xs) by unfold partM; rw [if_neg (by rw [hy]; exact n92), if_neg (by rw [hy]; exact n39), if_neg (by rw [hy]; exact n34), if_neg (by rw [hy]; exact n36)])
          have HTL := Lib.hid (till_any (stops_part w.heap.size depth) h.rd (fun W2 hk => hk.cell hcell (fun e => by simp only at e; omega)))
          have HL := Lib.hid (show (enc (got (fun r => begins r || ends r (decide (0 < depth))) xs)).length ≤ 16000 from enc_short (xs := xs) (by have := got_length (fun r => begins r || ends r (decide (0 < depth))) xs; omega) h.rd.few)
          have HI := Lib.hid h
          have HF := Lib.hid hf
          rw [hy] at HN
          have y0 : ((y : Int) == 92) = false := neq_of n92
          have y1 : ((y : Int) == 39) = false := neq_of n39
          have y2 : ((y : Int) == 34) = false := neq_of n34
          have y3 : ((y : Int) == 36) = false := neq_of n36
          obtain ⟨g, hg⟩ : ∃ g, got (fun r => begins r || ends r (decide (0 < depth))) xs = g := ⟨_, rfl⟩
          obtain ⟨l, hl⟩ : ∃ l, left (fun r => begins r || ends r (decide (0 < depth))) xs = l := ⟨_, rfl⟩
          rw [hg, hl] at HTL HM
          rw [hg] at HL
          clear h hf h0 hb hD hx hy hb1 hA hcell hXw hW1 n92 n39 n34 n36 hg hl
          go_enter Tryd.func44, Tryd.ntmps44
          go_wp2_with (first
            | (go_at_call 26; refine HN.out.mono ?_; rintro e w1 ⟨rfl, rfl⟩; simp only [DB])
            | (go_at_call 24; refine HTL.out.mono ?_; rintro e w2 ⟨rfl, hs2⟩; have HS2 := Lib.hid hs2; clear hs2; have HP := Lib.hid (lit_any (HI.out.step HS2.out).row HF.out (enc g) HL.out false))
            | (go_at_call 59; refine HP.out.mono ?_; rintro e w3 ⟨rfl, hr3, hk3⟩; have HR3 := Lib.hid (And.intro hr3 hk3); clear hr3 hk3))
          go_ret
          rw [HM.out]
          exact ⟨rfl, ((HI.out.step HS2.out).put HR3.out.1 HR3.out.2).rd, HR3.out.1, (HA.out.on HS2.out.2.wide).on HR3.out.2.wideB⟩

/-- What parts is doing. -/
structure PtAt (w wr : World) (X G sz W : Nat) (br : List Nat → Res Pt) (deep : Bool) (M : Res (List Pt)) (f : Nat) (ys : List Nat) (qs : List Pt) : Prop where
  inn : RowIn wr X G sz w.heap.size W ys qs
  fits : Fits ys qs
  kept : Kept (fun k => k = X ∨ w.heap.size ≤ k) w wr
  said : partsL br deep f ys qs = M
  fuel : ys.length < f

/-- Only the reader has turned of what there was. -/
theorem Kept.mine {w wr : World} {X : Nat} (h : Kept (fun k => k = X ∨ w.heap.size ≤ k) w wr) : Kept (fun k => k = X) w wr :=
  ⟨h.os, h.tape, h.output, h.size, fun k hk hn => h.block k hk fun e => e.elim hn fun e => by omega⟩

set_option maxHeartbeats 1000000 in
theorem parts_any {depth : Nat} {br : List Nat → Res Pt} (hb : BraceOk br) (hD : DollarDo depth br) : PartsDo depth (fun xs => partsL br (decide (0 < depth)) (xs.length + 1) xs []) := by
  intro w X G sz xs h
  have HRD := Lib.hid h
  have HB := Lib.hid hb
  have HD := Lib.hid hD
  obtain ⟨M, hM⟩ : ∃ M, partsL br (decide (0 < depth)) (xs.length + 1) xs [] = M := ⟨_, rfl⟩
  show Calls Tryd.prog 29 #[.pointer (some ⟨X, 0, none⟩), .int .i64 (depth : Int)] w fun e w' => PartsEnd w w' e X G sz (partsL br (decide (0 < depth)) (xs.length + 1) xs [])
  rw [hM]
  have HM := Lib.hid hM
  clear h hb hD hM
  go_enter Tryd.func29, Tryd.ntmps29
  go_wp2_with fail
  go_loopw [] (fun wr => ∃ f ys qs, PtAt w wr X G sz w.heap.size br (decide (0 < depth)) M f ys qs) (fun wr => lenAt wr X)
  case atStart =>
    have hb1 : Below w.heap.size w (w.alloc (.cells #[.slice none 0 0] 89)) := (Below.refl _ w).alloc (Nat.le_refl _) _
    exact ⟨_, xs, [], ⟨HRD.out.below hb1, RowAt.new w, HRD.out.lt.1, HRD.out.lt.2⟩, Fits.nil _ (by have := HRD.out.few; omega), Kept.of_below hb1, HM.out, by omega⟩
  case round =>
    obtain ⟨f, ys, qs, hA⟩ := hrel
    have HR := Lib.hid hA
    obtain ⟨f, rfl⟩ : ∃ g, f = g + 1 := ⟨f - 1, by have := hA.fuel; omega⟩
    clear hA
    have HN := Lib.hid (next_any HR.out.inn.rd)
    cases ys with
    | nil =>
      obtain ⟨v, vs, F, ho⟩ := HR.out.inn.row
      obtain ⟨a, c, hv⟩ := ho.shape
      subst hv
      have c0 := ho.cell0
      have HO := Lib.hid ho
      clear ho
      go_wp2_with (go_at_call 26; refine HN.out.mono ?_; rintro e w1 ⟨rfl, rfl⟩; rw [next_nil])
      go_ret2
      rw [← HR.out.said, partsL, if_pos (.inl rfl)]
      exact ⟨_, rfl, HO.out.word, HR.out.inn.rd, HR.out.kept.mine⟩
    | cons c r =>
      have hg := HR.out.inn.rd.good c (by simp)
      have hx : ((c : Int) != 0) = true := by
        have := hg.1
        have : ¬ (c : Int) = 0 := by omega
        simpa using this
      have hn0 : next (c :: r) ≠ 0 := by have := hg.1; rw [next_cons]; omega
      have HN0 := Lib.hid hn0
      obtain ⟨b, hb⟩ : ∃ b, ends c (decide (0 < depth)) = b := ⟨_, rfl⟩
      have HE := Lib.hid (fun W => by have := ends_any c depth (.inr hg) W; rw [hb] at this; exact this)
      have HBB := Lib.hid hb
      clear hg hn0 hb
      cases b with
      | true =>
        go_wp2_with (first
          | (go_at_call 26; refine HN.out.mono ?_; rintro e w1 ⟨rfl, rfl⟩; rw [next_cons])
          | (go_at_call 43; refine (HE.out _).mono ?_; rintro e w2 ⟨rfl, hb2⟩; have HI2 := Lib.hid (HR.out.inn.below hb2); have HK2 := Lib.hid (HR.out.kept.on (Kept.of_below hb2)); clear hb2; obtain ⟨v, vs, F, ho⟩ := HI2.out.row; obtain ⟨a, cp, hv⟩ := ho.shape; subst hv; have c0 := ho.cell0; have HO := Lib.hid ho; clear ho))
        go_ret2
        rw [← HR.out.said, partsL, if_pos (.inr HBB.out)]
        exact ⟨_, rfl, HO.out.word, HI2.out.rd, HK2.out.mine⟩
      | false =>
        obtain ⟨mw, hmw⟩ : ∃ mw, partM br (decide (0 < depth)) (c :: r) qs = mw := ⟨_, rfl⟩
        have HMW := Lib.hid hmw
        clear hmw
        go_wp2_with (first
          | (go_at_call 26; refine HN.out.mono ?_; rintro e w1 ⟨rfl, rfl⟩; rw [next_cons])
          | (go_at_call 43; refine (HE.out _).mono ?_; rintro e w2 ⟨rfl, hb2⟩; have HI2 := Lib.hid (HR.out.inn.below hb2); have HK2 := Lib.hid (HR.out.kept.on (Kept.of_below hb2)); clear hb2))
        have hp := part_any HB.out HD.out HI2.out HR.out.fits (by simp)
        rw [HMW.out] at hp
        refine hp.mono ?_
        cases mw with
        | error cc =>
          rintro e w5 ⟨hcc, rfl, hk5⟩
          have H5 := Lib.hid (And.intro hcc hk5)
          have hc0 : (((cc : Nat) : Int) != 0) = true := by rcases hcc with rfl | rfl <;> rfl
          clear hcc hk5 hp
          go_wp2_with fail
          go_ret2
          rw [← HR.out.said, partsL, if_neg (fun e => e.elim HN0.out fun e => by rw [next_cons, HBB.out] at e; cases e)]
          rw [HMW.out]
          exact ⟨H5.out.1, rfl, (HK2.out.on H5.out.2).mine⟩
        | ok a =>
          obtain ⟨qs', ys'⟩ := a
          rintro e w5 ⟨rfl, hr5, hro5, hk5⟩
          have H5 := Lib.hid (And.intro hr5 (And.intro hro5 hk5))
          clear hr5 hro5 hk5 hp
          go_wp2_with fail
          obtain ⟨l1, l2⟩ := part_less HB.out HMW.out HN0.out (by rw [next_cons]; exact HBB.out)
          go_roundw
          case rel =>
            refine ⟨f, ys', qs', ⟨H5.out.1, H5.out.2.1, HR.out.inn.hX, HR.out.inn.hG⟩, l2 HR.out.fits, HK2.out.on H5.out.2.2, ?_, by have := HR.out.fuel; have := l1.2; omega⟩
            rw [← HR.out.said, partsL, if_neg (fun e => e.elim HN0.out fun e => by rw [next_cons, HBB.out] at e; cases e)]
            rw [HMW.out]
          case measure =>
            have e1 := H5.out.1.lenAt
            have e2 := HR.out.inn.rd.lenAt
            have := l1.2
            simp only [e1, e2]
            omega
end Go.Proofs.YtpifbpfmjmcchaaDoor
