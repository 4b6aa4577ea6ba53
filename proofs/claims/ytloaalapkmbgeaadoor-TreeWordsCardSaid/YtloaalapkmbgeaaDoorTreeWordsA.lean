/-
  Proved: the walk of the law TreeWords: it answers true and changes nothing that was there (ways 0 to 5). Conditions: the program's shapes lie as they should.
-/
import Derived.Test.YtloaalapkmbgeaaDoorTreeWordsL
namespace Go.Proofs.YtloaalapkmbgeaaDoor
open Go Go.RowKit GlyphMath LexMath TreeMath

set_option maxHeartbeats 1000000 in
set_option maxRecDepth 100000 in
theorem words_0 (w : World) (hS : Shapes w) : Calls Tryd.prog 5 #[.int .i64 0] w fun e w' => e = .returned (.bool true) ∧ Below w.heap.size w w' := by
  have HS := Lib.hid hS
  clear hS
  go_enter Tryd.func5, Tryd.ntmps5
  go_wp2_with fail
  refine calls_seven fun W hb hA hB _ hD hE hF hG => ?_
  have HB := Lib.hid hb
  have HOK := Lib.hid (ok_ps hD hE)
  have HTW := Lib.hid (tw_ps hF)
  have HQ := Lib.hid (one_part (p := way0) hG (PsAt.nil _ _) 1)
  clear hb hA hB hD hE hF hG
  refine (word_any [way0] _ W HQ.out way0_small).mono ?_
  rintro e w1 ⟨rfl, hb⟩
  rw [way0_none]
  have HB1 := Lib.hid hb
  clear hb
  go_wp2_with fail
  refine (word_any okL _ w1 (HOK.out.stays HB1.out) ok_small).mono ?_
  rintro e w2 ⟨rfl, hb⟩
  rw [ok_word]
  have HB2 := Lib.hid (HB1.out.trans (hb.mono HB1.out.size))
  clear hb
  go_wp2_with fail
  refine (word_any twL _ w2 (HTW.out.stays HB2.out) tw_small).mono ?_
  rintro e w3 ⟨rfl, hb⟩
  rw [tw_word]
  have HB3 := Lib.hid (HB2.out.trans (hb.mono HB2.out.size))
  clear hb
  go_wp2_with fail
  refine (word_any [] _ w3 (PsAt.nil _ _) Small.nil).mono ?_
  rintro e w4 ⟨rfl, hb⟩
  rw [no_word]
  have HB4 := Lib.hid (HB.out.trans ((HB3.out.trans (hb.mono HB3.out.size)).mono HB.out.size))
  clear hb
  go_wp2_with fail
  refine (known_any w4 (HS.out.below HB4.out)).mono ?_
  rintro e w5 ⟨rfl, hb⟩
  have HB5 := Lib.hid (HB4.out.trans (hb.mono HB4.out.size))
  clear hb
  go_wp2_with fail
  go_ret
  exact ⟨rfl, HB5.out⟩
set_option maxHeartbeats 1000000 in
set_option maxRecDepth 100000 in
theorem words_1 (w : World) (hS : Shapes w) : Calls Tryd.prog 5 #[.int .i64 1] w fun e w' => e = .returned (.bool true) ∧ Below w.heap.size w w' := by
  have HS := Lib.hid hS
  clear hS
  go_enter Tryd.func5, Tryd.ntmps5
  go_wp2_with fail
  refine calls_seven fun W hb hA hB _ hD hE hF hG => ?_
  have HB := Lib.hid hb
  have HOK := Lib.hid (ok_ps hD hE)
  have HTW := Lib.hid (tw_ps hF)
  have HQ := Lib.hid (one_part (p := way1) hG (PsAt.nil _ _) 1)
  clear hb hA hB hD hE hF hG
  refine (word_any [way1] _ W HQ.out way1_small).mono ?_
  rintro e w1 ⟨rfl, hb⟩
  rw [way1_none]
  have HB1 := Lib.hid hb
  clear hb
  go_wp2_with fail
  refine (word_any okL _ w1 (HOK.out.stays HB1.out) ok_small).mono ?_
  rintro e w2 ⟨rfl, hb⟩
  rw [ok_word]
  have HB2 := Lib.hid (HB1.out.trans (hb.mono HB1.out.size))
  clear hb
  go_wp2_with fail
  refine (word_any twL _ w2 (HTW.out.stays HB2.out) tw_small).mono ?_
  rintro e w3 ⟨rfl, hb⟩
  rw [tw_word]
  have HB3 := Lib.hid (HB2.out.trans (hb.mono HB2.out.size))
  clear hb
  go_wp2_with fail
  refine (word_any [] _ w3 (PsAt.nil _ _) Small.nil).mono ?_
  rintro e w4 ⟨rfl, hb⟩
  rw [no_word]
  have HB4 := Lib.hid (HB.out.trans ((HB3.out.trans (hb.mono HB3.out.size)).mono HB.out.size))
  clear hb
  go_wp2_with fail
  refine (known_any w4 (HS.out.below HB4.out)).mono ?_
  rintro e w5 ⟨rfl, hb⟩
  have HB5 := Lib.hid (HB4.out.trans (hb.mono HB4.out.size))
  clear hb
  go_wp2_with fail
  go_ret
  exact ⟨rfl, HB5.out⟩
set_option maxHeartbeats 1000000 in
set_option maxRecDepth 100000 in
theorem words_2 (w : World) (hS : Shapes w) : Calls Tryd.prog 5 #[.int .i64 2] w fun e w' => e = .returned (.bool true) ∧ Below w.heap.size w w' := by
  have HS := Lib.hid hS
  clear hS
  go_enter Tryd.func5, Tryd.ntmps5
  go_wp2_with fail
  refine calls_seven fun W hb hA hB _ hD hE hF hG => ?_
  have HB := Lib.hid hb
  have HOK := Lib.hid (ok_ps hD hE)
  have HTW := Lib.hid (tw_ps hF)
  have HQ := Lib.hid (one_part (p := way2) hG (PsAt.nil _ _) 1)
  clear hb hA hB hD hE hF hG
  refine (word_any [way2] _ W HQ.out way2_small).mono ?_
  rintro e w1 ⟨rfl, hb⟩
  rw [way2_none]
  have HB1 := Lib.hid hb
  clear hb
  go_wp2_with fail
  refine (word_any okL _ w1 (HOK.out.stays HB1.out) ok_small).mono ?_
  rintro e w2 ⟨rfl, hb⟩
  rw [ok_word]
  have HB2 := Lib.hid (HB1.out.trans (hb.mono HB1.out.size))
  clear hb
  go_wp2_with fail
  refine (word_any twL _ w2 (HTW.out.stays HB2.out) tw_small).mono ?_
  rintro e w3 ⟨rfl, hb⟩
  rw [tw_word]
  have HB3 := Lib.hid (HB2.out.trans (hb.mono HB2.out.size))
  clear hb
  go_wp2_with fail
  refine (word_any [] _ w3 (PsAt.nil _ _) Small.nil).mono ?_
  rintro e w4 ⟨rfl, hb⟩
  rw [no_word]
  have HB4 := Lib.hid (HB.out.trans ((HB3.out.trans (hb.mono HB3.out.size)).mono HB.out.size))
  clear hb
  go_wp2_with fail
  refine (known_any w4 (HS.out.below HB4.out)).mono ?_
  rintro e w5 ⟨rfl, hb⟩
  have HB5 := Lib.hid (HB4.out.trans (hb.mono HB4.out.size))
  clear hb
  go_wp2_with fail
  go_ret
  exact ⟨rfl, HB5.out⟩
set_option maxHeartbeats 1000000 in
set_option maxRecDepth 100000 in
theorem words_3 (w : World) (hS : Shapes w) : Calls Tryd.prog 5 #[.int .i64 3] w fun e w' => e = .returned (.bool true) ∧ Below w.heap.size w w' := by
  have HS := Lib.hid hS
  clear hS
  go_enter Tryd.func5, Tryd.ntmps5
  go_wp2_with fail
  refine calls_seven fun W hb hA hB _ hD hE hF hG => ?_
  have HB := Lib.hid hb
  have HOK := Lib.hid (ok_ps hD hE)
  have HTW := Lib.hid (tw_ps hF)
  have HQ := Lib.hid (one_part (p := way3) hG (PsAt.nil _ _) 1)
  clear hb hA hB hD hE hF hG
  refine (word_any [way3] _ W HQ.out way3_small).mono ?_
  rintro e w1 ⟨rfl, hb⟩
  rw [way3_none]
  have HB1 := Lib.hid hb
  clear hb
  go_wp2_with fail
  refine (word_any okL _ w1 (HOK.out.stays HB1.out) ok_small).mono ?_
  rintro e w2 ⟨rfl, hb⟩
  rw [ok_word]
  have HB2 := Lib.hid (HB1.out.trans (hb.mono HB1.out.size))
  clear hb
  go_wp2_with fail
  refine (word_any twL _ w2 (HTW.out.stays HB2.out) tw_small).mono ?_
  rintro e w3 ⟨rfl, hb⟩
  rw [tw_word]
  have HB3 := Lib.hid (HB2.out.trans (hb.mono HB2.out.size))
  clear hb
  go_wp2_with fail
  refine (word_any [] _ w3 (PsAt.nil _ _) Small.nil).mono ?_
  rintro e w4 ⟨rfl, hb⟩
  rw [no_word]
  have HB4 := Lib.hid (HB.out.trans ((HB3.out.trans (hb.mono HB3.out.size)).mono HB.out.size))
  clear hb
  go_wp2_with fail
  refine (known_any w4 (HS.out.below HB4.out)).mono ?_
  rintro e w5 ⟨rfl, hb⟩
  have HB5 := Lib.hid (HB4.out.trans (hb.mono HB4.out.size))
  clear hb
  go_wp2_with fail
  go_ret
  exact ⟨rfl, HB5.out⟩
set_option maxHeartbeats 1000000 in
set_option maxRecDepth 100000 in
theorem words_4 (w : World) (hS : Shapes w) : Calls Tryd.prog 5 #[.int .i64 4] w fun e w' => e = .returned (.bool true) ∧ Below w.heap.size w w' := by
  have HS := Lib.hid hS
  clear hS
  go_enter Tryd.func5, Tryd.ntmps5
  go_wp2_with fail
  refine calls_seven fun W hb hA hB _ hD hE hF hG => ?_
  have HB := Lib.hid hb
  have HOK := Lib.hid (ok_ps hD hE)
  have HTW := Lib.hid (tw_ps hF)
  have HQ := Lib.hid (one_part (p := way4) hG (PsAt.nil _ _) 1)
  clear hb hA hB hD hE hF hG
  refine (word_any [way4] _ W HQ.out way4_small).mono ?_
  rintro e w1 ⟨rfl, hb⟩
  rw [way4_none]
  have HB1 := Lib.hid hb
  clear hb
  go_wp2_with fail
  refine (word_any okL _ w1 (HOK.out.stays HB1.out) ok_small).mono ?_
  rintro e w2 ⟨rfl, hb⟩
  rw [ok_word]
  have HB2 := Lib.hid (HB1.out.trans (hb.mono HB1.out.size))
  clear hb
  go_wp2_with fail
  refine (word_any twL _ w2 (HTW.out.stays HB2.out) tw_small).mono ?_
  rintro e w3 ⟨rfl, hb⟩
  rw [tw_word]
  have HB3 := Lib.hid (HB2.out.trans (hb.mono HB2.out.size))
  clear hb
  go_wp2_with fail
  refine (word_any [] _ w3 (PsAt.nil _ _) Small.nil).mono ?_
  rintro e w4 ⟨rfl, hb⟩
  rw [no_word]
  have HB4 := Lib.hid (HB.out.trans ((HB3.out.trans (hb.mono HB3.out.size)).mono HB.out.size))
  clear hb
  go_wp2_with fail
  refine (known_any w4 (HS.out.below HB4.out)).mono ?_
  rintro e w5 ⟨rfl, hb⟩
  have HB5 := Lib.hid (HB4.out.trans (hb.mono HB4.out.size))
  clear hb
  go_wp2_with fail
  go_ret
  exact ⟨rfl, HB5.out⟩
set_option maxHeartbeats 1000000 in
set_option maxRecDepth 100000 in
theorem words_5 (w : World) (hS : Shapes w) : Calls Tryd.prog 5 #[.int .i64 5] w fun e w' => e = .returned (.bool true) ∧ Below w.heap.size w w' := by
  have HS := Lib.hid hS
  clear hS
  go_enter Tryd.func5, Tryd.ntmps5
  go_wp2_with fail
  refine calls_seven fun W hb hA hB _ hD hE hF hG => ?_
  have HB := Lib.hid hb
  have HOK := Lib.hid (ok_ps hD hE)
  have HTW := Lib.hid (tw_ps hF)
  have HQ := Lib.hid (one_part (p := way5) hG (PsAt.nil _ _) 1)
  clear hb hA hB hD hE hF hG
  refine (word_any [way5] _ W HQ.out way5_small).mono ?_
  rintro e w1 ⟨rfl, hb⟩
  rw [way5_none]
  have HB1 := Lib.hid hb
  clear hb
  go_wp2_with fail
  refine (word_any okL _ w1 (HOK.out.stays HB1.out) ok_small).mono ?_
  rintro e w2 ⟨rfl, hb⟩
  rw [ok_word]
  have HB2 := Lib.hid (HB1.out.trans (hb.mono HB1.out.size))
  clear hb
  go_wp2_with fail
  refine (word_any twL _ w2 (HTW.out.stays HB2.out) tw_small).mono ?_
  rintro e w3 ⟨rfl, hb⟩
  rw [tw_word]
  have HB3 := Lib.hid (HB2.out.trans (hb.mono HB2.out.size))
  clear hb
  go_wp2_with fail
  refine (word_any [] _ w3 (PsAt.nil _ _) Small.nil).mono ?_
  rintro e w4 ⟨rfl, hb⟩
  rw [no_word]
  have HB4 := Lib.hid (HB.out.trans ((HB3.out.trans (hb.mono HB3.out.size)).mono HB.out.size))
  clear hb
  go_wp2_with fail
  refine (known_any w4 (HS.out.below HB4.out)).mono ?_
  rintro e w5 ⟨rfl, hb⟩
  have HB5 := Lib.hid (HB4.out.trans (hb.mono HB4.out.size))
  clear hb
  go_wp2_with fail
  go_ret
  exact ⟨rfl, HB5.out⟩
end Go.Proofs.YtloaalapkmbgeaaDoor
