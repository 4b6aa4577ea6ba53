/-
  Proved: the walk of the law LexWords, at some of its texts. Conditions: the program's signs lie as they should.
-/
import Derived.Test.YtpifbpfmjmcchaaDoorLexWordsM
import Derived.Deep.RegionHeld
namespace Go.Proofs.YtpifbpfmjmcchaaDoor
open Go Go.RowKit GlyphMath LexMath

set_option maxHeartbeats 4000000 in
set_option maxRecDepth 100000 in
theorem words_way0 (w : World) (hS : Signs w) :
    Calls Tryd.prog 3 #[.int .i64 0] w fun e w' => e = .returned (.bool true) ∧ Below w.heap.size w w' := by
  have HBW := Lib.hid (allocAll_below (wordObjs w.heap.size) w w (Below.refl _ w))
  have hSW : Signs (wordsW w) := hS.kept (D := fun _ => False) (Kept.of_below HBW.out) (fun h => h)
  have HT := Lib.hid (show _ from by have := tokens_in ⟨#[39, 39]⟩ (wordsW w) (by decide) word_model0.1 hSW; rw [show (⟨#[39, 39]⟩ : ByteArray).size = 2 from rfl, word_model0.2] at this; exact this)
  have HSW := Lib.hid hSW
  have HWM := Lib.hid (word_mem0 w)
  clear hS hSW
  go_enter Tryd.func3, Tryd.ntmps3
  go_wp2_with (go_at_call 7; refine (plit_any _ _ _).mono ?_; rintro e w1 ⟨rfl, rfl⟩)
  refine HT.out.mono ?_
  rintro e w1 ⟨v, X, us, F, rfl, hO, hb⟩
  obtain ⟨p, c, rfl, hat⟩ := hO.at
  obtain ⟨u0, -, hw0, b0, o0, rfl, a0, a1, a2, a3⟩ := hat 0 _ rfl
  simp only [Nat.zero_mul, Nat.add_zero] at a0 a1 a2 a3
  have hlit := HWM.out.same (w' := w1) (fun g hg => hb.block g hg.2)
  have HPQ := Lib.hid (fun n => rparts_yes hw0 hlit n)
  have hwc : w1.cell? ⟨w.heap.size + 35, 0, none⟩ = some (.slice (some ⟨w.heap.size + 2, 0, none⟩) 1 1) := by
    have h1 := allocAll_new (wordObjs w.heap.size) w 35 _ rfl
    rw [cell_plain ((hb.block _ (by rw [words_size]; omega)).trans h1)]
    rfl
  have HKN := Lib.hid (fun n => known_any (w1.drewN n) (HSW.out.kept (D := fun _ => False) (kept_drawn (Kept.of_below hb) n) (fun h => h)))
  have HB := Lib.hid (HBW.out.trans (hb.mono HBW.out.size))
  obtain ⟨V, hV⟩ : ∃ V, w.heap.size + 35 = V := ⟨_, rfl⟩
  obtain ⟨V2, hV2⟩ : ∃ V2, w.heap.size + 2 = V2 := ⟨_, rfl⟩
  rw [hV, hV2] at hwc
  rw [hV2] at HPQ
  simp only [Nat.add_assoc, Nat.reduceAdd, hV]
  have t2 := (show w1.drew.cell? _ = _ from a2)
  have tw := (show w1.drew.cell? _ = _ from hwc)
  clear hO hb hat hw0 hlit hV hV2
  go_wp2_with fail
  go_region_held (fun W => W.cell? ⟨b0, o0 + 2, none⟩ = some u0 ∧ W.cell? ⟨V, 0, none⟩ = some (.slice (some ⟨V2, 0, none⟩) 1 1)) (first | exact ⟨t2, tw⟩ | exact ⟨a2, hwc⟩ | assumption | exact ⟨S2.out.1, S2.out.2⟩) ((first
    | (go_at_call 9; refine (HPQ.out 1).mono ?_; rintro e w2 ⟨rfl, m, rfl⟩)
    | (go_at_call 10; refine (HKN.out _).mono ?_; rintro e w3 ⟨rfl, hb3⟩; have S2 := Lib.hid (show w3.cell? ⟨b0, o0 + 2, none⟩ = some u0 ∧ w3.cell? ⟨V, 0, none⟩ = some (.slice (some ⟨V2, 0, none⟩) 1 1) from ⟨(hb3.cell (p := ⟨b0, o0 + 2, none⟩) (World.block_lt_of_cell? w1 _ a2)).trans a2, (hb3.cell (p := ⟨V, 0, none⟩) (World.block_lt_of_cell? w1 _ hwc)).trans hwc⟩); have HB3 := Lib.hid hb3; clear hb3)))
  go_wp2_with fail
  go_ret
  exact ⟨rfl, (HB.out.trans (show Below w.heap.size w1 (w1.drewN _) from ⟨rfl, rfl, rfl, Nat.le_refl _, fun _ _ => rfl⟩)).trans (HB3.out.mono HB.out.size)⟩
set_option maxHeartbeats 4000000 in
set_option maxRecDepth 100000 in
theorem words_way1 (w : World) (hS : Signs w) :
    Calls Tryd.prog 3 #[.int .i64 1] w fun e w' => e = .returned (.bool true) ∧ Below w.heap.size w w' := by
  have HBW := Lib.hid (allocAll_below (wordObjs w.heap.size) w w (Below.refl _ w))
  have hSW : Signs (wordsW w) := hS.kept (D := fun _ => False) (Kept.of_below HBW.out) (fun h => h)
  have HT := Lib.hid (show _ from by have := tokens_in ⟨#[97, 92, 32, 98]⟩ (wordsW w) (by decide) word_model1.1 hSW; rw [show (⟨#[97, 92, 32, 98]⟩ : ByteArray).size = 4 from rfl, word_model1.2] at this; exact this)
  have HSW := Lib.hid hSW
  have HWM := Lib.hid (word_mem1 w)
  clear hS hSW
  go_enter Tryd.func3, Tryd.ntmps3
  go_wp2_with (go_at_call 7; refine (plit_any _ _ _).mono ?_; rintro e w1 ⟨rfl, rfl⟩)
  refine HT.out.mono ?_
  rintro e w1 ⟨v, X, us, F, rfl, hO, hb⟩
  obtain ⟨p, c, rfl, hat⟩ := hO.at
  obtain ⟨u0, -, hw0, b0, o0, rfl, a0, a1, a2, a3⟩ := hat 0 _ rfl
  simp only [Nat.zero_mul, Nat.add_zero] at a0 a1 a2 a3
  have hlit := HWM.out.same (w' := w1) (fun g hg => hb.block g hg.2)
  have HPQ := Lib.hid (fun n => rparts_yes hw0 hlit n)
  have hwc : w1.cell? ⟨w.heap.size + 35, 1, none⟩ = some (.slice (some ⟨w.heap.size + 6, 0, none⟩) 3 3) := by
    have h1 := allocAll_new (wordObjs w.heap.size) w 35 _ rfl
    rw [cell_plain ((hb.block _ (by rw [words_size]; omega)).trans h1)]
    rfl
  have HKN := Lib.hid (fun n => known_any (w1.drewN n) (HSW.out.kept (D := fun _ => False) (kept_drawn (Kept.of_below hb) n) (fun h => h)))
  have HB := Lib.hid (HBW.out.trans (hb.mono HBW.out.size))
  obtain ⟨V, hV⟩ : ∃ V, w.heap.size + 35 = V := ⟨_, rfl⟩
  obtain ⟨V2, hV2⟩ : ∃ V2, w.heap.size + 6 = V2 := ⟨_, rfl⟩
  rw [hV, hV2] at hwc
  rw [hV2] at HPQ
  simp only [Nat.add_assoc, Nat.reduceAdd, hV]
  have t2 := (show w1.drew.cell? _ = _ from a2)
  have tw := (show w1.drew.cell? _ = _ from hwc)
  clear hO hb hat hw0 hlit hV hV2
  go_wp2_with fail
  go_region_held (fun W => W.cell? ⟨b0, o0 + 2, none⟩ = some u0 ∧ W.cell? ⟨V, 1, none⟩ = some (.slice (some ⟨V2, 0, none⟩) 3 3)) (first | exact ⟨t2, tw⟩ | exact ⟨a2, hwc⟩ | assumption | exact ⟨S2.out.1, S2.out.2⟩) ((first
    | (go_at_call 9; refine (HPQ.out 1).mono ?_; rintro e w2 ⟨rfl, m, rfl⟩)
    | (go_at_call 10; refine (HKN.out _).mono ?_; rintro e w3 ⟨rfl, hb3⟩; have S2 := Lib.hid (show w3.cell? ⟨b0, o0 + 2, none⟩ = some u0 ∧ w3.cell? ⟨V, 1, none⟩ = some (.slice (some ⟨V2, 0, none⟩) 3 3) from ⟨(hb3.cell (p := ⟨b0, o0 + 2, none⟩) (World.block_lt_of_cell? w1 _ a2)).trans a2, (hb3.cell (p := ⟨V, 1, none⟩) (World.block_lt_of_cell? w1 _ hwc)).trans hwc⟩); have HB3 := Lib.hid hb3; clear hb3)))
  go_wp2_with fail
  go_ret
  exact ⟨rfl, (HB.out.trans (show Below w.heap.size w1 (w1.drewN _) from ⟨rfl, rfl, rfl, Nat.le_refl _, fun _ _ => rfl⟩)).trans (HB3.out.mono HB.out.size)⟩
set_option maxHeartbeats 4000000 in
set_option maxRecDepth 100000 in
theorem words_way2 (w : World) (hS : Signs w) :
    Calls Tryd.prog 3 #[.int .i64 2] w fun e w' => e = .returned (.bool true) ∧ Below w.heap.size w w' := by
  have HBW := Lib.hid (allocAll_below (wordObjs w.heap.size) w w (Below.refl _ w))
  have hSW : Signs (wordsW w) := hS.kept (D := fun _ => False) (Kept.of_below HBW.out) (fun h => h)
  have HT := Lib.hid (show _ from by have := tokens_in ⟨#[39, 97, 36, 98, 39]⟩ (wordsW w) (by decide) word_model2.1 hSW; rw [show (⟨#[39, 97, 36, 98, 39]⟩ : ByteArray).size = 5 from rfl, word_model2.2] at this; exact this)
  have HSW := Lib.hid hSW
  have HWM := Lib.hid (word_mem2 w)
  clear hS hSW
  go_enter Tryd.func3, Tryd.ntmps3
  go_wp2_with (go_at_call 7; refine (plit_any _ _ _).mono ?_; rintro e w1 ⟨rfl, rfl⟩)
  refine HT.out.mono ?_
  rintro e w1 ⟨v, X, us, F, rfl, hO, hb⟩
  obtain ⟨p, c, rfl, hat⟩ := hO.at
  obtain ⟨u0, -, hw0, b0, o0, rfl, a0, a1, a2, a3⟩ := hat 0 _ rfl
  simp only [Nat.zero_mul, Nat.add_zero] at a0 a1 a2 a3
  have hlit := HWM.out.same (w' := w1) (fun g hg => hb.block g hg.2)
  have HPQ := Lib.hid (fun n => rparts_yes hw0 hlit n)
  have hwc : w1.cell? ⟨w.heap.size + 35, 2, none⟩ = some (.slice (some ⟨w.heap.size + 8, 0, none⟩) 1 1) := by
    have h1 := allocAll_new (wordObjs w.heap.size) w 35 _ rfl
    rw [cell_plain ((hb.block _ (by rw [words_size]; omega)).trans h1)]
    rfl
  have HKN := Lib.hid (fun n => known_any (w1.drewN n) (HSW.out.kept (D := fun _ => False) (kept_drawn (Kept.of_below hb) n) (fun h => h)))
  have HB := Lib.hid (HBW.out.trans (hb.mono HBW.out.size))
  obtain ⟨V, hV⟩ : ∃ V, w.heap.size + 35 = V := ⟨_, rfl⟩
  obtain ⟨V2, hV2⟩ : ∃ V2, w.heap.size + 8 = V2 := ⟨_, rfl⟩
  rw [hV, hV2] at hwc
  rw [hV2] at HPQ
  simp only [Nat.add_assoc, Nat.reduceAdd, hV]
  have t2 := (show w1.drew.cell? _ = _ from a2)
  have tw := (show w1.drew.cell? _ = _ from hwc)
  clear hO hb hat hw0 hlit hV hV2
  go_wp2_with fail
  go_region_held (fun W => W.cell? ⟨b0, o0 + 2, none⟩ = some u0 ∧ W.cell? ⟨V, 2, none⟩ = some (.slice (some ⟨V2, 0, none⟩) 1 1)) (first | exact ⟨t2, tw⟩ | exact ⟨a2, hwc⟩ | assumption | exact ⟨S2.out.1, S2.out.2⟩) ((first
    | (go_at_call 9; refine (HPQ.out 1).mono ?_; rintro e w2 ⟨rfl, m, rfl⟩)
    | (go_at_call 10; refine (HKN.out _).mono ?_; rintro e w3 ⟨rfl, hb3⟩; have S2 := Lib.hid (show w3.cell? ⟨b0, o0 + 2, none⟩ = some u0 ∧ w3.cell? ⟨V, 2, none⟩ = some (.slice (some ⟨V2, 0, none⟩) 1 1) from ⟨(hb3.cell (p := ⟨b0, o0 + 2, none⟩) (World.block_lt_of_cell? w1 _ a2)).trans a2, (hb3.cell (p := ⟨V, 2, none⟩) (World.block_lt_of_cell? w1 _ hwc)).trans hwc⟩); have HB3 := Lib.hid hb3; clear hb3)))
  go_wp2_with fail
  go_ret
  exact ⟨rfl, (HB.out.trans (show Below w.heap.size w1 (w1.drewN _) from ⟨rfl, rfl, rfl, Nat.le_refl _, fun _ _ => rfl⟩)).trans (HB3.out.mono HB.out.size)⟩
set_option maxHeartbeats 4000000 in
set_option maxRecDepth 100000 in
theorem words_way3 (w : World) (hS : Signs w) :
    Calls Tryd.prog 3 #[.int .i64 3] w fun e w' => e = .returned (.bool true) ∧ Below w.heap.size w w' := by
  have HBW := Lib.hid (allocAll_below (wordObjs w.heap.size) w w (Below.refl _ w))
  have hSW : Signs (wordsW w) := hS.kept (D := fun _ => False) (Kept.of_below HBW.out) (fun h => h)
  have HT := Lib.hid (show _ from by have := tokens_in ⟨#[34, 97, 92, 110, 92, 34, 34]⟩ (wordsW w) (by decide) word_model3.1 hSW; rw [show (⟨#[34, 97, 92, 110, 92, 34, 34]⟩ : ByteArray).size = 7 from rfl, word_model3.2] at this; exact this)
  have HSW := Lib.hid hSW
  have HWM := Lib.hid (word_mem3 w)
  clear hS hSW
  go_enter Tryd.func3, Tryd.ntmps3
  go_wp2_with (go_at_call 7; refine (plit_any _ _ _).mono ?_; rintro e w1 ⟨rfl, rfl⟩)
  refine HT.out.mono ?_
  rintro e w1 ⟨v, X, us, F, rfl, hO, hb⟩
  obtain ⟨p, c, rfl, hat⟩ := hO.at
  obtain ⟨u0, -, hw0, b0, o0, rfl, a0, a1, a2, a3⟩ := hat 0 _ rfl
  simp only [Nat.zero_mul, Nat.add_zero] at a0 a1 a2 a3
  have hlit := HWM.out.same (w' := w1) (fun g hg => hb.block g hg.2)
  have HPQ := Lib.hid (fun n => rparts_yes hw0 hlit n)
  have hwc : w1.cell? ⟨w.heap.size + 35, 3, none⟩ = some (.slice (some ⟨w.heap.size + 10, 0, none⟩) 1 1) := by
    have h1 := allocAll_new (wordObjs w.heap.size) w 35 _ rfl
    rw [cell_plain ((hb.block _ (by rw [words_size]; omega)).trans h1)]
    rfl
  have HKN := Lib.hid (fun n => known_any (w1.drewN n) (HSW.out.kept (D := fun _ => False) (kept_drawn (Kept.of_below hb) n) (fun h => h)))
  have HB := Lib.hid (HBW.out.trans (hb.mono HBW.out.size))
  obtain ⟨V, hV⟩ : ∃ V, w.heap.size + 35 = V := ⟨_, rfl⟩
  obtain ⟨V2, hV2⟩ : ∃ V2, w.heap.size + 10 = V2 := ⟨_, rfl⟩
  rw [hV, hV2] at hwc
  rw [hV2] at HPQ
  simp only [Nat.add_assoc, Nat.reduceAdd, hV]
  have t2 := (show w1.drew.cell? _ = _ from a2)
  have tw := (show w1.drew.cell? _ = _ from hwc)
  clear hO hb hat hw0 hlit hV hV2
  go_wp2_with fail
  go_region_held (fun W => W.cell? ⟨b0, o0 + 2, none⟩ = some u0 ∧ W.cell? ⟨V, 3, none⟩ = some (.slice (some ⟨V2, 0, none⟩) 1 1)) (first | exact ⟨t2, tw⟩ | exact ⟨a2, hwc⟩ | assumption | exact ⟨S2.out.1, S2.out.2⟩) ((first
    | (go_at_call 9; refine (HPQ.out 1).mono ?_; rintro e w2 ⟨rfl, m, rfl⟩)
    | (go_at_call 10; refine (HKN.out _).mono ?_; rintro e w3 ⟨rfl, hb3⟩; have S2 := Lib.hid (show w3.cell? ⟨b0, o0 + 2, none⟩ = some u0 ∧ w3.cell? ⟨V, 3, none⟩ = some (.slice (some ⟨V2, 0, none⟩) 1 1) from ⟨(hb3.cell (p := ⟨b0, o0 + 2, none⟩) (World.block_lt_of_cell? w1 _ a2)).trans a2, (hb3.cell (p := ⟨V, 3, none⟩) (World.block_lt_of_cell? w1 _ hwc)).trans hwc⟩); have HB3 := Lib.hid hb3; clear hb3)))
  go_wp2_with fail
  go_ret
  exact ⟨rfl, (HB.out.trans (show Below w.heap.size w1 (w1.drewN _) from ⟨rfl, rfl, rfl, Nat.le_refl _, fun _ _ => rfl⟩)).trans (HB3.out.mono HB.out.size)⟩
end Go.Proofs.YtpifbpfmjmcchaaDoor
