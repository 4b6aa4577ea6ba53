/-
  Proved: the walk of the law TreeWords: it answers true and changes nothing that was there (ways 12 to 17). Conditions: the program's shapes lie as they should.
-/
import Derived.Test.YtloaalapkmbgeaaDoorTreeWordsL
namespace Go.Proofs.YtloaalapkmbgeaaDoor
open Go Go.RowKit GlyphMath LexMath TreeMath

set_option maxHeartbeats 1000000 in
set_option maxRecDepth 100000 in
theorem words_12 (w : World) (hS : Shapes w) : Calls Tryd.prog 5 #[.int .i64 12] w fun e w' => e = .returned (.bool true) ∧ Below w.heap.size w w' := by
  have HS := Lib.hid hS
  clear hS
  go_enter Tryd.func5, Tryd.ntmps5
  go_wp2_with fail
  refine calls_seven fun W hb hA hB _ hD hE hF hG => ?_
  have HB := Lib.hid hb
  have HOK := Lib.hid (ok_ps hD hE)
  have HTW := Lib.hid (tw_ps hF)
  have HQ := Lib.hid (one_part (p := way12) hG (PsAt.nil _ _) 1)
  clear hb hA hB hD hE hF hG
  refine (word_any [way12] _ W HQ.out way12_small).mono ?_
  rintro e w1 ⟨rfl, hb⟩
  rw [way12_none]
  have HB1 := Lib.hid hb
  clear hb
  go_wp2_with fail
  refine (word_any okL _ w1 (HOK.out.stays HB1.out) ok_small).mono ?_
  rintro e w2 ⟨rfl, hb⟩
  rw [ok_word]
  have HB2 := Lib.hid (HB1.out.trans (hb.mono HB1.out.size))
  clear hb
  go_wp2_with fail
  refine (word_any twL _ w2 (HTW.out.stays HB2.out) tw_small).mono ?_
  rintro e w3 ⟨rfl, hb⟩
  rw [tw_word]
  have HB3 := Lib.hid (HB2.out.trans (hb.mono HB2.out.size))
  clear hb
  go_wp2_with fail
  refine (word_any [] _ w3 (PsAt.nil _ _) Small.nil).mono ?_
  rintro e w4 ⟨rfl, hb⟩
  rw [no_word]
  have HB4 := Lib.hid (HB.out.trans ((HB3.out.trans (hb.mono HB3.out.size)).mono HB.out.size))
  clear hb
  go_wp2_with fail
  refine (known_any w4 (HS.out.below HB4.out)).mono ?_
  rintro e w5 ⟨rfl, hb⟩
  have HB5 := Lib.hid (HB4.out.trans (hb.mono HB4.out.size))
  clear hb
  go_wp2_with fail
  go_ret
  exact ⟨rfl, HB5.out⟩
set_option maxHeartbeats 1000000 in
set_option maxRecDepth 100000 in
theorem words_13 (w : World) (hS : Shapes w) : Calls Tryd.prog 5 #[.int .i64 13] w fun e w' => e = .returned (.bool true) ∧ Below w.heap.size w w' := by
  have HS := Lib.hid hS
  clear hS
  go_enter Tryd.func5, Tryd.ntmps5
  go_wp2_with fail
  refine calls_seven fun W hb hA hB _ hD hE hF hG => ?_
  have HB := Lib.hid hb
  have HOK := Lib.hid (ok_ps hD hE)
  have HTW := Lib.hid (tw_ps hF)
  have HQ := Lib.hid (one_part (p := way13) hG (PsAt.nil _ _) 1)
  clear hb hA hB hD hE hF hG
  refine (word_any [way13] _ W HQ.out way13_small).mono ?_
  rintro e w1 ⟨rfl, hb⟩
  rw [way13_none]
  have HB1 := Lib.hid hb
  clear hb
  go_wp2_with fail
  refine (word_any okL _ w1 (HOK.out.stays HB1.out) ok_small).mono ?_
  rintro e w2 ⟨rfl, hb⟩
  rw [ok_word]
  have HB2 := Lib.hid (HB1.out.trans (hb.mono HB1.out.size))
  clear hb
  go_wp2_with fail
  refine (word_any twL _ w2 (HTW.out.stays HB2.out) tw_small).mono ?_
  rintro e w3 ⟨rfl, hb⟩
  rw [tw_word]
  have HB3 := Lib.hid (HB2.out.trans (hb.mono HB2.out.size))
  clear hb
  go_wp2_with fail
  refine (word_any [] _ w3 (PsAt.nil _ _) Small.nil).mono ?_
  rintro e w4 ⟨rfl, hb⟩
  rw [no_word]
  have HB4 := Lib.hid (HB.out.trans ((HB3.out.trans (hb.mono HB3.out.size)).mono HB.out.size))
  clear hb
  go_wp2_with fail
  refine (known_any w4 (HS.out.below HB4.out)).mono ?_
  rintro e w5 ⟨rfl, hb⟩
  have HB5 := Lib.hid (HB4.out.trans (hb.mono HB4.out.size))
  clear hb
  go_wp2_with fail
  go_ret
  exact ⟨rfl, HB5.out⟩
set_option maxHeartbeats 1000000 in
set_option maxRecDepth 100000 in
theorem words_14 (w : World) (hS : Shapes w) : Calls Tryd.prog 5 #[.int .i64 14] w fun e w' => e = .returned (.bool true) ∧ Below w.heap.size w w' := by
  have HS := Lib.hid hS
  clear hS
  go_enter Tryd.func5, Tryd.ntmps5
  go_wp2_with fail
  refine calls_seven fun W hb hA hB _ hD hE hF hG => ?_
  have HB := Lib.hid hb
  have HOK := Lib.hid (ok_ps hD hE)
  have HTW := Lib.hid (tw_ps hF)
  have HQ := Lib.hid (one_part (p := way14) hG (PsAt.nil _ _) 1)
  clear hb hA hB hD hE hF hG
  refine (word_any [way14] _ W HQ.out way14_small).mono ?_
  rintro e w1 ⟨rfl, hb⟩
  rw [way14_none]
  have HB1 := Lib.hid hb
  clear hb
  go_wp2_with fail
  refine (word_any okL _ w1 (HOK.out.stays HB1.out) ok_small).mono ?_
  rintro e w2 ⟨rfl, hb⟩
  rw [ok_word]
  have HB2 := Lib.hid (HB1.out.trans (hb.mono HB1.out.size))
  clear hb
  go_wp2_with fail
  refine (word_any twL _ w2 (HTW.out.stays HB2.out) tw_small).mono ?_
  rintro e w3 ⟨rfl, hb⟩
  rw [tw_word]
  have HB3 := Lib.hid (HB2.out.trans (hb.mono HB2.out.size))
  clear hb
  go_wp2_with fail
  refine (word_any [] _ w3 (PsAt.nil _ _) Small.nil).mono ?_
  rintro e w4 ⟨rfl, hb⟩
  rw [no_word]
  have HB4 := Lib.hid (HB.out.trans ((HB3.out.trans (hb.mono HB3.out.size)).mono HB.out.size))
  clear hb
  go_wp2_with fail
  refine (known_any w4 (HS.out.below HB4.out)).mono ?_
  rintro e w5 ⟨rfl, hb⟩
  have HB5 := Lib.hid (HB4.out.trans (hb.mono HB4.out.size))
  clear hb
  go_wp2_with fail
  go_ret
  exact ⟨rfl, HB5.out⟩
set_option maxHeartbeats 1000000 in
set_option maxRecDepth 100000 in
theorem words_15 (w : World) (hS : Shapes w) : Calls Tryd.prog 5 #[.int .i64 15] w fun e w' => e = .returned (.bool true) ∧ Below w.heap.size w w' := by
  have HS := Lib.hid hS
  clear hS
  go_enter Tryd.func5, Tryd.ntmps5
  go_wp2_with fail
  refine calls_seven fun W hb hA hB _ hD hE hF hG => ?_
  have HB := Lib.hid hb
  have HOK := Lib.hid (ok_ps hD hE)
  have HTW := Lib.hid (tw_ps hF)
  have HQ := Lib.hid (one_part (p := way15) hG (one_part (p := ⟨1, [125], [], [], false⟩) hB (PsAt.nil _ _) 1) 1)
  clear hb hA hB hD hE hF hG
  refine (word_any [way15] _ W HQ.out way15_small).mono ?_
  rintro e w1 ⟨rfl, hb⟩
  rw [way15_none]
  have HB1 := Lib.hid hb
  clear hb
  go_wp2_with fail
  refine (word_any okL _ w1 (HOK.out.stays HB1.out) ok_small).mono ?_
  rintro e w2 ⟨rfl, hb⟩
  rw [ok_word]
  have HB2 := Lib.hid (HB1.out.trans (hb.mono HB1.out.size))
  clear hb
  go_wp2_with fail
  refine (word_any twL _ w2 (HTW.out.stays HB2.out) tw_small).mono ?_
  rintro e w3 ⟨rfl, hb⟩
  rw [tw_word]
  have HB3 := Lib.hid (HB2.out.trans (hb.mono HB2.out.size))
  clear hb
  go_wp2_with fail
  refine (word_any [] _ w3 (PsAt.nil _ _) Small.nil).mono ?_
  rintro e w4 ⟨rfl, hb⟩
  rw [no_word]
  have HB4 := Lib.hid (HB.out.trans ((HB3.out.trans (hb.mono HB3.out.size)).mono HB.out.size))
  clear hb
  go_wp2_with fail
  refine (known_any w4 (HS.out.below HB4.out)).mono ?_
  rintro e w5 ⟨rfl, hb⟩
  have HB5 := Lib.hid (HB4.out.trans (hb.mono HB4.out.size))
  clear hb
  go_wp2_with fail
  go_ret
  exact ⟨rfl, HB5.out⟩
set_option maxHeartbeats 1000000 in
set_option maxRecDepth 100000 in
theorem words_16 (w : World) (hS : Shapes w) : Calls Tryd.prog 5 #[.int .i64 16] w fun e w' => e = .returned (.bool true) ∧ Below w.heap.size w w' := by
  have HS := Lib.hid hS
  clear hS
  go_enter Tryd.func5, Tryd.ntmps5
  go_wp2_with fail
  refine calls_seven fun W hb hA hB _ hD hE hF hG => ?_
  have HB := Lib.hid hb
  have HOK := Lib.hid (ok_ps hD hE)
  have HTW := Lib.hid (tw_ps hF)
  have HQ := Lib.hid (one_part (p := way16) hG (PsAt.nil _ _) 1)
  clear hb hA hB hD hE hF hG
  refine (word_any [way16] _ W HQ.out way16_small).mono ?_
  rintro e w1 ⟨rfl, hb⟩
  rw [way16_none]
  have HB1 := Lib.hid hb
  clear hb
  go_wp2_with fail
  refine (word_any okL _ w1 (HOK.out.stays HB1.out) ok_small).mono ?_
  rintro e w2 ⟨rfl, hb⟩
  rw [ok_word]
  have HB2 := Lib.hid (HB1.out.trans (hb.mono HB1.out.size))
  clear hb
  go_wp2_with fail
  refine (word_any twL _ w2 (HTW.out.stays HB2.out) tw_small).mono ?_
  rintro e w3 ⟨rfl, hb⟩
  rw [tw_word]
  have HB3 := Lib.hid (HB2.out.trans (hb.mono HB2.out.size))
  clear hb
  go_wp2_with fail
  refine (word_any [] _ w3 (PsAt.nil _ _) Small.nil).mono ?_
  rintro e w4 ⟨rfl, hb⟩
  rw [no_word]
  have HB4 := Lib.hid (HB.out.trans ((HB3.out.trans (hb.mono HB3.out.size)).mono HB.out.size))
  clear hb
  go_wp2_with fail
  refine (known_any w4 (HS.out.below HB4.out)).mono ?_
  rintro e w5 ⟨rfl, hb⟩
  have HB5 := Lib.hid (HB4.out.trans (hb.mono HB4.out.size))
  clear hb
  go_wp2_with fail
  go_ret
  exact ⟨rfl, HB5.out⟩
set_option maxHeartbeats 1000000 in
set_option maxRecDepth 100000 in
theorem words_17 (w : World) (hS : Shapes w) : Calls Tryd.prog 5 #[.int .i64 17] w fun e w' => e = .returned (.bool true) ∧ Below w.heap.size w w' := by
  have HS := Lib.hid hS
  clear hS
  go_enter Tryd.func5, Tryd.ntmps5
  go_wp2_with fail
  refine calls_seven fun W hb hA hB _ hD hE hF hG => ?_
  have HB := Lib.hid hb
  have HOK := Lib.hid (ok_ps hD hE)
  have HTW := Lib.hid (tw_ps hF)
  have HQ := Lib.hid (one_part (p := way17) hG (PsAt.nil _ _) 1)
  clear hb hA hB hD hE hF hG
  refine (word_any [way17] _ W HQ.out way17_small).mono ?_
  rintro e w1 ⟨rfl, hb⟩
  rw [way17_none]
  have HB1 := Lib.hid hb
  clear hb
  go_wp2_with fail
  refine (word_any okL _ w1 (HOK.out.stays HB1.out) ok_small).mono ?_
  rintro e w2 ⟨rfl, hb⟩
  rw [ok_word]
  have HB2 := Lib.hid (HB1.out.trans (hb.mono HB1.out.size))
  clear hb
  go_wp2_with fail
  refine (word_any twL _ w2 (HTW.out.stays HB2.out) tw_small).mono ?_
  rintro e w3 ⟨rfl, hb⟩
  rw [tw_word]
  have HB3 := Lib.hid (HB2.out.trans (hb.mono HB2.out.size))
  clear hb
  go_wp2_with fail
  refine (word_any [] _ w3 (PsAt.nil _ _) Small.nil).mono ?_
  rintro e w4 ⟨rfl, hb⟩
  rw [no_word]
  have HB4 := Lib.hid (HB.out.trans ((HB3.out.trans (hb.mono HB3.out.size)).mono HB.out.size))
  clear hb
  go_wp2_with fail
  refine (known_any w4 (HS.out.below HB4.out)).mono ?_
  rintro e w5 ⟨rfl, hb⟩
  have HB5 := Lib.hid (HB4.out.trans (hb.mono HB4.out.size))
  clear hb
  go_wp2_with fail
  go_ret
  exact ⟨rfl, HB5.out⟩
end Go.Proofs.YtloaalapkmbgeaaDoor
