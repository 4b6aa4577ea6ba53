/-
  Proved: texts joined: Proved: the contract of dollar at a name, or at another parameter. Conditions: the reader and the row lie in memory.
  Proved: dollar, and parts within so many braces, whatever is next. Conditions: the reader and the row lie in memory.
-/
import Derived.Test.YtakceggnadagmaaGreatDoorPj30
import Derived.Test.YtakceggnadagmaaGreatDoorPj31
import Derived.Test.YtakceggnadagmaaGreatDoorPj32
namespace Go.Proofs.YtakceggnadagmaaGreatDoor
open Go Go.RowKit GlyphMath LexMath

set_option maxHeartbeats 1000000 in
set_option maxRecDepth 100000 in
theorem dollar_D {depth : Nat} (br : List Nat → Res Pt) {w : World} {X G sz B W : Nat} {xs : List Nat} {ps : List Pt} (h : RowIn w X G sz B W xs ps) (hf : Fits xs ps) (q : Bool) (ht : takes [123] xs.tail = none) (ht2 : takes [40, 40] xs.tail = none) (h3 : firstR (next xs.tail : Int) = false) (h4 : other (next xs.tail) = true) :
    Calls Tryz.prog 125 #[.pointer (some ⟨X, 0, none⟩), .pointer (some ⟨W, 0, none⟩), .int .i64 (depth : Int), .bool q] w fun e w' => RowEnd w w' e X G sz B W (dollarM br q xs ps) := by
  have HT := Lib.hid (take_any h.rd)
  have HI := Lib.hid h
  have HNN := Lib.hid (show ps.length ≤ 4000 by have := hf.1; omega)
  obtain ⟨i0, hi0, hz0, hz1, hz2⟩ := info_parts infoPart
  have HIN := Lib.hid (And.intro hi0 (And.intro hz0 (And.intro hz1 hz2)))
  obtain ⟨n, hn⟩ : ∃ n, ps.length = n := ⟨_, rfl⟩
  have HN := Lib.hid hn
  have hn0 : (0 : Int) ≤ (n : Int) := by omega
  have hn1 : (n : Int) ≤ 4000 := by have := HNN.out; omega
  have hn2 : (n : Int) < (n : Int) + 1 := by omega
  have HTT0 := Lib.hid ht
  have HTT1 := Lib.hid ht2
  obtain ⟨m, hm⟩ : ∃ m, nameEnd (parameterM xs.tail) = m := ⟨_, rfl⟩
  have HMM := Lib.hid hm
  have HM := Lib.hid (show dollarM br q xs ps = partEnd ps q m by rw [dollar_name ht ht2 (by rw [h3, h4]; rfl), hm])
  have HFI := Lib.hid (fun W => by have := firstT (next xs.tail) W; rw [h3] at this; exact this)
  have HOT := Lib.hid (fun W => by have := other_any (next xs.tail) (next_lt0 (fun x hx => h.rd.good x (List.mem_of_mem_tail hx))) W; rw [h4] at this; exact this)
  obtain ⟨y, hy⟩ : ∃ y, next xs.tail = y := ⟨_, rfl⟩
  rw [hy] at HFI HOT
  have HYY := Lib.hid hy
  clear h hf ht ht2 hm hn hi0 hz0 hz1 hz2 h3 hy h4
  cases m with
  | error cc =>
    go_enter Tryz.func125, Tryz.ntmps125
    go_wp2_with fail
    refine HT.out.mono ?_
    rintro e w1 ⟨rfl, hs1⟩
    have hI1 := HI.out.step hs1
    obtain ⟨v, vs, F, ho⟩ := hI1.row
    obtain ⟨a, c, hv⟩ := ho.shape
    rw [HN.out] at hv
    subst hv
    have hr1 : Rd (w1.alloc ZB) X G sz xs.tail := hs1.1.below ((Below.refl _ w1).alloc (Nat.le_refl _) _)
    have HR1 := Lib.hid hr1
    have HX := Lib.hid (show X < w1.heap.size ∧ G < w1.heap.size by have := ho.lt; have := ho.base; have := HI.out.hX; have := HI.out.hG; omega)
    have HOW := Lib.hid ho
    have HK0 := Lib.hid (show Kept (fun k => k = X ∨ B ≤ k) w w1 from hs1.2.wide)
    have HV := Lib.hid (show B ≤ w1.heap.size by have := ho.lt; have := ho.base; omega)
    clear hs1 hI1 ho hr1
    go_wp2_with fail
    refine (takesM HR1.out ⟨#[123]⟩ [123] rfl (by decide) HTT0.out).mono ?_
    rintro e w2 ⟨rfl, hs⟩
    simp only [Option.getD_none] at hs
    have HS0 := Lib.hid hs
    clear hs
    go_wp2_with fail
    refine (takesM HS0.out.1 ⟨#[40, 40]⟩ [40, 40] rfl (by decide) HTT1.out).mono ?_
    rintro e w2b ⟨rfl, hs⟩
    simp only [Option.getD_none] at hs
    have HS := Lib.hid (HS0.out.trans hs)
    clear hs
    go_wp2_with fail
    refine (next_any HS.out.1).mono ?_
    rintro e w2c ⟨rfl, rfl⟩
    rw [HYY.out]
    go_wp2_with fail
    refine (HFI.out _).mono ?_
    rintro e w2c ⟨rfl, rfl⟩
    go_wp2_with fail
    refine (next_any HS.out.1).mono ?_
    rintro e w2c ⟨rfl, rfl⟩
    rw [HYY.out]
    go_wp2_with fail
    refine (HOT.out _).mono ?_
    rintro e w2d ⟨rfl, hb2⟩
    have HSD := Lib.hid (HS.out.below hb2)
    clear hb2
    go_wp2_with fail
    have hx := HX.out
    have hk2 : Kept (fun k => k = X ∨ w1.heap.size ≤ k) w1 w2d := (Kept.of_below ((Below.refl _ w1).alloc (Nat.le_refl _) ZB)).on (HSD.out.2.mono fun _ _ h => .inl h)
    have HK2 := Lib.hid hk2
    have HK1 := Lib.hid (show Kept (fun k => k = X ∨ B ≤ k) w w2d from HK0.out.trans hk2 fun i e => .inl (e.elim .inl fun e => .inr (by have := HV.out; omega)))
    have HVC := Lib.hid (show w2d.heap[w1.heap.size]? = some ZB from HSD.out.2.heap (heap_alloc_new w1 ZB) (fun e => by omega))
    have hvlt : w1.heap.size < w2d.heap.size := (Array.getElem?_eq_some_iff.1 HVC.out).1
    have hcall := (parameter_any HSD.out.1).mono fun _ _ h => parEnd_part h
    rw [HMM.out] at hcall
    have HCALL := Lib.hid hcall
    clear hx hk2 hcall
    refine HCALL.out.mono ?_
    rintro e w3 ⟨hcc, ⟨p, rfl⟩, hk3⟩
    obtain ⟨T1, hT1⟩ : ∃ T : ByteArray, txt p.text = .string T := ⟨_, rfl⟩
    obtain ⟨T2, hT2⟩ : ∃ T : ByteArray, txt p.op = .string T := ⟨_, rfl⟩
    rw [show partV p zeroV = .agg #[.int .i64 p.kind, .string T1, .string T2, .slice none 0 0, .bool p.q] by rw [partV, hT1, hT2]; rfl]
    have hx := HX.out
    have v3 := hk3.heap HVC.out (fun e => by omega)
    have H3 := Lib.hid (And.intro v3 (And.intro hcc hk3))
    have hc0 : (((cc : Nat) : Int) != 0) = true := by rcases hcc with rfl | rfl <;> rfl
    clear v3 hk3 hcc hx hT1 hT2
    go_wp2_with (refine wpList_store_mid (by rfl) 113 (.tmp 9) (.tmp 44) (by rfl) w1.heap.size 0 #[.int .i64 p.kind, .string T1, .string T2, .slice none 0 0, .bool p.q] (by rfl) (by rfl) (five_there H3.out.1) part_info (by simp [Value.oneCell']) ?_; obtain ⟨w4, hw4⟩ : ∃ w4, w4 = w3.setCells w1.heap.size 0 (#[.int .i64 p.kind, .string T1, .string T2, .slice none 0 0, .bool p.q] : Array Value).toList := ⟨_, rfl⟩; rw [← hw4]; obtain ⟨y1, y2, y3⟩ := five_stored H3.out.1 hw4; have HY := Lib.hid y2; clear y1 y2 y3 hw4)
    go_ret
    rw [HM.out]
    refine ⟨H3.out.2.1, rfl, ?_⟩
    have hv := HV.out
    exact (HK1.out.on H3.out.2.2.wide).trans HY.out fun i e => .inl (.inr (by omega))
  | ok bb =>
    obtain ⟨p, r'⟩ := bb
    go_enter Tryz.func125, Tryz.ntmps125
    go_wp2_with fail
    refine HT.out.mono ?_
    rintro e w1 ⟨rfl, hs1⟩
    have hI1 := HI.out.step hs1
    obtain ⟨v, vs, F, ho⟩ := hI1.row
    obtain ⟨a, c, hv⟩ := ho.shape
    rw [HN.out] at hv
    subst hv
    have hr1 : Rd (w1.alloc ZB) X G sz xs.tail := hs1.1.below ((Below.refl _ w1).alloc (Nat.le_refl _) _)
    have HR1 := Lib.hid hr1
    have HX := Lib.hid (show X < w1.heap.size ∧ G < w1.heap.size by have := ho.lt; have := ho.base; have := HI.out.hX; have := HI.out.hG; omega)
    have HOW := Lib.hid ho
    have HK0 := Lib.hid (show Kept (fun k => k = X ∨ B ≤ k) w w1 from hs1.2.wide)
    have HV := Lib.hid (show B ≤ w1.heap.size by have := ho.lt; have := ho.base; omega)
    clear hs1 hI1 ho hr1
    go_wp2_with fail
    refine (takesM HR1.out ⟨#[123]⟩ [123] rfl (by decide) HTT0.out).mono ?_
    rintro e w2 ⟨rfl, hs⟩
    simp only [Option.getD_none] at hs
    have HS0 := Lib.hid hs
    clear hs
    go_wp2_with fail
    refine (takesM HS0.out.1 ⟨#[40, 40]⟩ [40, 40] rfl (by decide) HTT1.out).mono ?_
    rintro e w2b ⟨rfl, hs⟩
    simp only [Option.getD_none] at hs
    have HS := Lib.hid (HS0.out.trans hs)
    clear hs
    go_wp2_with fail
    refine (next_any HS.out.1).mono ?_
    rintro e w2c ⟨rfl, rfl⟩
    rw [HYY.out]
    go_wp2_with fail
    refine (HFI.out _).mono ?_
    rintro e w2c ⟨rfl, rfl⟩
    go_wp2_with fail
    refine (next_any HS.out.1).mono ?_
    rintro e w2c ⟨rfl, rfl⟩
    rw [HYY.out]
    go_wp2_with fail
    refine (HOT.out _).mono ?_
    rintro e w2d ⟨rfl, hb2⟩
    have HSD := Lib.hid (HS.out.below hb2)
    clear hb2
    go_wp2_with fail
    have hx := HX.out
    have hk2 : Kept (fun k => k = X ∨ w1.heap.size ≤ k) w1 w2d := (Kept.of_below ((Below.refl _ w1).alloc (Nat.le_refl _) ZB)).on (HSD.out.2.mono fun _ _ h => .inl h)
    have HK2 := Lib.hid hk2
    have HK1 := Lib.hid (show Kept (fun k => k = X ∨ B ≤ k) w w2d from HK0.out.trans hk2 fun i e => .inl (e.elim .inl fun e => .inr (by have := HV.out; omega)))
    have HVC := Lib.hid (show w2d.heap[w1.heap.size]? = some ZB from HSD.out.2.heap (heap_alloc_new w1 ZB) (fun e => by omega))
    have hvlt : w1.heap.size < w2d.heap.size := (Array.getElem?_eq_some_iff.1 HVC.out).1
    have hcall := (parameter_any HSD.out.1).mono fun _ _ h => parEnd_part h
    rw [HMM.out] at hcall
    have HCALL := Lib.hid hcall
    clear hx hk2 hcall
    refine HCALL.out.mono ?_
    rintro e w3 ⟨u, rfl, hwn, hr3, hk3⟩
    obtain ⟨T1, hT1⟩ : ∃ T : ByteArray, txt p.text = .string T := ⟨_, rfl⟩
    obtain ⟨T2, hT2⟩ : ∃ T : ByteArray, txt p.op = .string T := ⟨_, rfl⟩
    obtain ⟨ad, cp, hu⟩ := hwn.shape
    obtain ⟨np, hnp⟩ : ∃ np, p.word.length = np := ⟨_, rfl⟩
    rw [hnp] at hu
    subst hu
    rw [show partV p (.slice ad np cp) = .agg #[.int .i64 p.kind, .string T1, .string T2, .slice ad np cp, .bool p.q] by rw [partV, hT1, hT2]]
    have hx := HX.out
    have v3 := hk3.heap HVC.out (fun e => by omega)
    have H3 := Lib.hid (And.intro v3 (And.intro hwn (And.intro hr3 hk3)))
    have HTT := Lib.hid (And.intro hT1 hT2)
    clear v3 hk3 hwn hr3 hx hT1 hT2 hnp
    go_wp2_with (refine wpList_store_mid (by rfl) 113 (.tmp 9) (.tmp 44) (by rfl) w1.heap.size 0 #[.int .i64 p.kind, .string T1, .string T2, .slice ad np cp, .bool p.q] (by rfl) (by rfl) (five_there H3.out.1) part_info (by simp [Value.oneCell']) ?_; obtain ⟨w4, hw4⟩ : ∃ w4, w4 = w3.setCells w1.heap.size 0 (#[.int .i64 p.kind, .string T1, .string T2, .slice ad np cp, .bool p.q] : Array Value).toList := ⟨_, rfl⟩; rw [← hw4]; obtain ⟨y1, y2, y3⟩ := five_stored H3.out.1 hw4; obtain ⟨d0, d1, d2, d3, d4⟩ := five_cells y1; have f4 := five_free y1 4; have HY := Lib.hid (And.intro y1 y2); clear y1 y2 y3 hw4)
    obtain ⟨w9, hw9⟩ : ∃ w9, w4.setCell ⟨w1.heap.size, 4, none⟩ (.bool q) = w9 := ⟨_, rfl⟩
    rw [hw9]
    obtain ⟨y1, y2⟩ := HY.out
    obtain ⟨v3, hwn, hr3, hk3⟩ := H3.out
    have hx := HX.out
    have hv := HV.out
    have kv : Kept (fun k => k = w1.heap.size) w3 w9 := by rw [← hw9]; exact y2.on (Kept.setCell (D := fun k => k = w1.heap.size) (Kept.refl _ _) (.inl rfl) _)
    have hvar : w9.heap[w1.heap.size]? = some (PB { p with q := q } T1 T2 (.slice ad np cp)) := by rw [← hw9]; exact heap_setCell_same w4 w1.heap.size 4 _ _ (.bool q) y1
    have hk19 : Kept (fun k => k = X ∨ w1.heap.size ≤ k) w1 w9 := (HK2.out.on (hk3.mono fun _ _ h => .inl h)).on (kv.mono fun k _ e => .inr (by omega))
    have hah := ahead_of (w0 := w) (q := q) HOW.out HI.out.hX HI.out.hG HK0.out hk19 (hr3.kept kv (by omega) (by omega)) ((hwn.kept kv (fun k hk e => by omega)).base (by omega)) hvar HTT.out.1 HTT.out.2
    have AH := Lib.hid hah
    have c0 := hah.row.cell0
    have g0 := hah.row.frozen0
    have cA : ∀ o1, (w9.alloc o1).cell? ⟨W, 0, none⟩ = some (.slice a n c) := fun o1 => (World.cell?_alloc_lt _ _ _ hah.row.lt).trans c0
    obtain ⟨e0, e1, e2, e3, e4⟩ := five_cells hvar
    have vlt : w1.heap.size < w9.heap.size := (Array.getElem?_eq_some_iff.1 hvar).1
    have q0 : ∀ o1, (w9.alloc o1).cell? ⟨w1.heap.size, 0, none⟩ = some (.int .i64 p.kind) := fun o1 => (World.cell?_alloc_lt _ _ _ vlt).trans e0
    have q1 : ∀ o1, (w9.alloc o1).cell? ⟨w1.heap.size, 1, none⟩ = some (.string T1) := fun o1 => (World.cell?_alloc_lt _ _ _ vlt).trans e1
    have q2 : ∀ o1, (w9.alloc o1).cell? ⟨w1.heap.size, 2, none⟩ = some (.string T2) := fun o1 => (World.cell?_alloc_lt _ _ _ vlt).trans e2
    have q3 : ∀ o1, (w9.alloc o1).cell? ⟨w1.heap.size, 3, none⟩ = some (.slice ad np cp) := fun o1 => (World.cell?_alloc_lt _ _ _ vlt).trans e3
    have q4 : ∀ o1, (w9.alloc o1).cell? ⟨w1.heap.size, 4, none⟩ = some (.bool q) := fun o1 => (World.cell?_alloc_lt _ _ _ vlt).trans e4
    have ho := hah.row.own
    rw [HN.out] at ho
    have HO := Lib.hid ho
    have HC := Lib.hid (show n + 1 ≤ maxLen ∧ (n + 1) * 72 ≤ 140737488355328 ∧ B ≤ w9.heap.size from ⟨by have := HNN.out; unfold maxLen; omega, by have := HNN.out; omega, by have := hah.row.lt; have := hah.row.base; omega⟩)
    clear hah hvar hk19 kv hx hv vlt ho y1 y2 v3 hwn hr3 hk3 hw9 d0 d1 d2 d3 d4 f4
    go_wp2_with fail
    go_region_law (refine step_append_lies _ (by rfl) (.tmp 54) (.tmp 57) 68 (by rfl) B 113 i0 (.agg zeroPart) 5 72 Tryz.underlying68 HIN.out.1 HIN.out.2.1 HIN.out.2.2.1 HIN.out.2.2.2 (by rfl) (by decide) _ _ _ (by rfl) ((HO.out.alloc _)) ⟨w9.heap.size, 0, none⟩ 1 1 zeroPart.toList (by rfl) (by rfl) (new_block w9 _ _) (by decide) (by decide) HC.out.1 HC.out.2.1 (by have := HC.out.2.2; simp; omega) (w9.heap.size + 1) (by simp) ?_; intro g cap wa hown hgrow hat hlt; have HG := Lib.hid (show Grown w9 wa B W _ vs ps g cap from ⟨by rw [HN.out]; exact hown, hgrow, hat, hlt⟩); obtain ⟨z0, z1, z2, z3, z4⟩ := HG.out.facts AH.out.row; have k0 := z3 0 (by decide); have k1 := z3 1 (by decide); have k2 := z3 2 (by decide); have k3 := z3 3 (by decide); have k4 := z3 4 (by decide); have j0 := z4 (n * 5); have j1 := z4 (n * 5 + 1); have j2 := z4 (n * 5 + 2); have j3 := z4 (n * 5 + 3); have j4 := z4 (n * 5 + 4); rw [HN.out] at k0 k1 k2 k3 k4; simp [zeroPart] at k0 k1 k2 k3 k4; clear hown hgrow hat hlt z3 z4)
    all_goals
      go_wp2_with fail
      go_ret
      rw [HM.out]
      refine ⟨rfl, AH.out.done ?_⟩
      first
        | (with_reducible refine Grown.putA (ps := ps) AH.out.row HG.out { p with q := q } (.slice ad np cp) AH.out.sub ?_ ?_ ?_ ?_ ?_ ?_ ?_ ?_) <;> first | rfl | (rw [HN.out]) | (simp only [pcells, AH.out.txtT, AH.out.txtO])
        | (with_reducible refine Grown.putB (ps := ps) AH.out.row HG.out { p with q := q } (.slice ad np cp) AH.out.sub ?_ ?_ ?_ ?_ ?_ ?_ ?_ ?_) <;> first | rfl | (rw [HN.out]) | (simp only [pcells, AH.out.txtT, AH.out.txtO])
end Go.Proofs.YtakceggnadagmaaGreatDoor

namespace Go.Proofs.YtakceggnadagmaaGreatDoor
open Go Go.RowKit GlyphMath LexMath

set_option maxHeartbeats 1000000 in
set_option maxRecDepth 100000 in
theorem dollar_E {depth : Nat} (br : List Nat → Res Pt) {w : World} {X G sz B W : Nat} {xs : List Nat} {ps : List Pt} (h : RowIn w X G sz B W xs ps) (hf : Fits xs ps) (q : Bool) (ht : takes [123] xs.tail = none) (ht2 : takes [40, 40] xs.tail = none) (h3 : firstR (next xs.tail : Int) = false) (h4 : other (next xs.tail) = false) :
    Calls Tryz.prog 125 #[.pointer (some ⟨X, 0, none⟩), .pointer (some ⟨W, 0, none⟩), .int .i64 (depth : Int), .bool q] w fun e w' => RowEnd w w' e X G sz B W (dollarM br q xs ps) := by
  have HT := Lib.hid (take_any h.rd)
  have HI := Lib.hid h
  have HF := Lib.hid hf
  have HTT0 := Lib.hid ht
  have HTT1 := Lib.hid ht2
  have HM := Lib.hid (show dollarM br q xs ps = .ok (lit ps [36] true, xs.tail) from dollar_lit ht ht2 (by rw [h3, h4]; rfl))
  have HFI := Lib.hid (fun W => by have := firstT (next xs.tail) W; rw [h3] at this; exact this)
  have HOT := Lib.hid (fun W => by have := other_any (next xs.tail) (next_lt0 (fun x hx => h.rd.good x (List.mem_of_mem_tail hx))) W; rw [h4] at this; exact this)
  obtain ⟨y, hy⟩ : ∃ y, next xs.tail = y := ⟨_, rfl⟩
  rw [hy] at HFI HOT
  have HYY := Lib.hid hy
  clear h hf ht ht2 h3 h4 hy
  go_enter Tryz.func125, Tryz.ntmps125
  go_wp2_with fail
  refine HT.out.mono ?_
  rintro e w1 ⟨rfl, hs1⟩
  have hI1 := Lib.hid ((HI.out.step hs1).below ((Below.refl _ w1).alloc (Nat.le_refl _) ZB))
  have HK0 := Lib.hid (show Kept (fun k => k = X ∨ B ≤ k) w (w1.alloc ZB) from hs1.2.wide.on (Kept.of_below ((Below.refl _ w1).alloc (Nat.le_refl _) ZB)))
  clear hs1
  go_wp2_with fail
  refine (takesM hI1.out.rd ⟨#[123]⟩ [123] rfl (by decide) HTT0.out).mono ?_
  rintro e w2 ⟨rfl, hs⟩
  simp only [Option.getD_none] at hs
  have HS0 := Lib.hid hs
  clear hs
  go_wp2_with fail
  refine (takesM HS0.out.1 ⟨#[40, 40]⟩ [40, 40] rfl (by decide) HTT1.out).mono ?_
  rintro e w3 ⟨rfl, hs⟩
  simp only [Option.getD_none] at hs
  have HS := Lib.hid (HS0.out.trans hs)
  clear hs
  go_wp2_with (first
    | (go_at_call 72; refine (next_any HS.out.1).mono ?_; rintro e w4 ⟨rfl, rfl⟩; rw [HYY.out])
    | (go_at_call 149; refine (HFI.out _).mono ?_; rintro e w4 ⟨rfl, rfl⟩)
    | (go_at_call 150; refine (HOT.out _).mono ?_; rintro e w5 ⟨rfl, hb5⟩; have HS5 := Lib.hid (HS.out.below hb5); clear hb5)
    | (go_at_call 126; refine (lit_any (hI1.out.step HS5.out).row HF.out [36] (by decide) true).mono ?_; rintro e w6 ⟨rfl, hr6, hk6⟩; have HR6 := Lib.hid (And.intro hr6 hk6); clear hr6 hk6))
  go_ret
  rw [HM.out]
  exact ⟨rfl, ((hI1.out.step HS5.out).put HR6.out.1 HR6.out.2).rd, HR6.out.1, (HK0.out.on HS5.out.2.wide).on HR6.out.2.wideB⟩

theorem dollar_do {depth : Nat} {br : List Nat → Res Pt} (hb : BraceDo depth br) : DollarDo depth br := by
  intro w X G sz B W xs ps h hf q
  cases ht : takes [123] xs.tail with
  | some r => exact dollar_A hb h hf q ht
  | none =>
    cases ht2 : takes [40, 40] xs.tail with
    | some r => exact dollar_B br h hf q ht ht2
    | none =>
      cases h3 : firstR (next xs.tail : Int) with
      | true => exact dollar_C br h hf q ht ht2 h3
      | false =>
        cases h4 : other (next xs.tail) with
        | true => exact dollar_D br h hf q ht ht2 h3 h4
        | false => exact dollar_E br h hf q ht ht2 h3 h4

/-- Parts, within so many braces as there may still begin others. -/
theorem parts_do : ∀ d, d ≤ 20 → PartsDo (20 - d) (partsM d)
  | 0, _ => by
    have h := parts_any (depth := 20) (br := bracesM true fun _ => .error 0) (braces_ok (f := fun _ => .error 0) (fun _ _ _ h => by cases h) true) (dollar_do (braces_lim _))
    exact h
  | d + 1, hd => by
    have ih := parts_do d (by omega)
    have hP : PartsDo (19 - d + 1) (partsM d) := by
      rw [show 19 - d + 1 = 20 - d by omega]; exact ih
    have h := parts_any (depth := 19 - d) (br := bracesM false (partsM d)) (braces_ok (parts_ok d) false) (dollar_do (braces_any hP (by omega)))
    rw [show 20 - (d + 1) = 19 - d by omega]
    intro w X G sz xs hr
    have hx := h w X G sz xs hr
    have e : (decide (0 < 19 - d)) = decide (d < 19) := by
      by_cases hc : d < 19
      · rw [decide_eq_true hc, decide_eq_true (by omega)]
      · rw [decide_eq_false hc, decide_eq_false (by omega)]
    rw [e] at hx
    exact hx
theorem parts_all {w : World} {X G sz : Nat} {xs : List Nat} (h : Rd w X G sz xs) :
    Calls Tryz.prog 75 #[.pointer (some ⟨X, 0, none⟩), .int .i64 0] w fun e w' => PartsEnd w w' e X G sz (partsM 20 xs) := parts_do 20 (Nat.le_refl _) w X G sz xs h

theorem skip_any {w : World} {X G sz : Nat} {xs : List Nat} (h : Rd w X G sz xs) :
    Calls Tryz.prog 41 #[.pointer (some ⟨X, 0, none⟩)] w fun e w' => e = .returned (.tuple #[]) ∧ RStep w w' X G sz (skipM xs) := by
  have H1 := Lib.hid (till_any stops_blank h (fun _ _ => trivial))
  obtain ⟨l, hl⟩ : ∃ l, left (fun r => r != 32 && r != 9) xs = l := ⟨_, rfl⟩
  rw [hl] at H1
  obtain ⟨y, hy⟩ : ∃ y, next l = y := ⟨_, rfl⟩
  have HY := Lib.hid hy
  have HL := Lib.hid hl
  clear h hl hy
  by_cases hc : y = 35
  · subst hc
    go_enter Tryz.func41, Tryz.ntmps41
    go_wp2_with fail
    refine H1.out.mono ?_
    rintro e w1 ⟨rfl, hs1⟩
    have HS1 := Lib.hid hs1
    clear hs1
    go_wp2_with (first
      | (go_at_call 72; refine (next_any HS1.out.1).mono ?_; rintro e w2 ⟨rfl, rfl⟩; rw [HY.out])
      | (go_at_call 70; refine (till_any stops_lf HS1.out.1 (fun _ _ => trivial)).mono ?_; rintro e w3 ⟨rfl, hs3⟩; have HS3 := Lib.hid hs3; clear hs3))
    go_end0
    refine ⟨rfl, ?_⟩
    unfold skipM
    rw [HL.out, if_pos HY.out]
    exact HS1.out.trans HS3.out
  · have y1 : ((y : Int) == 35) = false := neq_of hc
    have HC := Lib.hid hc
    clear hc
    go_enter Tryz.func41, Tryz.ntmps41
    go_wp2_with fail
    refine H1.out.mono ?_
    rintro e w1 ⟨rfl, hs1⟩
    have HS1 := Lib.hid hs1
    clear hs1
    go_wp2_with (go_at_call 72; refine (next_any HS1.out.1).mono ?_; rintro e w2 ⟨rfl, rfl⟩; rw [HY.out])
    go_end0
    refine ⟨rfl, ?_⟩
    unfold skipM
    rw [HL.out, if_neg (by rw [HY.out]; exact HC.out)]
    exact HS1.out
end Go.Proofs.YtakceggnadagmaaGreatDoor
