/-
  Proved: the walk of the law TreeWords: it answers true and changes nothing that was there (ways 6 to 11). Conditions: the program's shapes lie as they should.
-/
import Derived.Test.YtloaalapkmbgeaaDoorTreeWordsL
namespace Go.Proofs.YtloaalapkmbgeaaDoor
open Go Go.RowKit GlyphMath LexMath TreeMath

set_option maxHeartbeats 1000000 in
set_option maxRecDepth 100000 in
theorem words_6 (w : World) (hS : Shapes w) : Calls Tryd.prog 5 #[.int .i64 6] w fun e w' => e = .returned (.bool true) ∧ Below w.heap.size w w' := by
  have HS := Lib.hid hS
  clear hS
  go_enter Tryd.func5, Tryd.ntmps5
  go_wp2_with fail
  refine calls_seven fun W hb hA hB _ hD hE hF hG => ?_
  have HB := Lib.hid hb
  have HOK := Lib.hid (ok_ps hD hE)
  have HTW := Lib.hid (tw_ps hF)
  have HQ := Lib.hid (one_part (p := way6) hG (PsAt.nil _ _) 1)
  clear hb hA hB hD hE hF hG
  refine (word_any [way6] _ W HQ.out way6_small).mono ?_
  rintro e w1 ⟨rfl, hb⟩
  rw [way6_none]
  have HB1 := Lib.hid hb
  clear hb
  go_wp2_with fail
  refine (word_any okL _ w1 (HOK.out.stays HB1.out) ok_small).mono ?_
  rintro e w2 ⟨rfl, hb⟩
  rw [ok_word]
  have HB2 := Lib.hid (HB1.out.trans (hb.mono HB1.out.size))
  clear hb
  go_wp2_with fail
  refine (word_any twL _ w2 (HTW.out.stays HB2.out) tw_small).mono ?_
  rintro e w3 ⟨rfl, hb⟩
  rw [tw_word]
  have HB3 := Lib.hid (HB2.out.trans (hb.mono HB2.out.size))
  clear hb
  go_wp2_with fail
  refine (word_any [] _ w3 (PsAt.nil _ _) Small.nil).mono ?_
  rintro e w4 ⟨rfl, hb⟩
  rw [no_word]
  have HB4 := Lib.hid (HB.out.trans ((HB3.out.trans (hb.mono HB3.out.size)).mono HB.out.size))
  clear hb
  go_wp2_with fail
  refine (known_any w4 (HS.out.below HB4.out)).mono ?_
  rintro e w5 ⟨rfl, hb⟩
  have HB5 := Lib.hid (HB4.out.trans (hb.mono HB4.out.size))
  clear hb
  go_wp2_with fail
  go_ret
  exact ⟨rfl, HB5.out⟩
set_option maxHeartbeats 1000000 in
set_option maxRecDepth 100000 in
theorem words_7 (w : World) (hS : Shapes w) : Calls Tryd.prog 5 #[.int .i64 7] w fun e w' => e = .returned (.bool true) ∧ Below w.heap.size w w' := by
  have HS := Lib.hid hS
  clear hS
  go_enter Tryd.func5, Tryd.ntmps5
  go_wp2_with fail
  refine calls_seven fun W hb hA hB _ hD hE hF hG => ?_
  have HB := Lib.hid hb
  have HOK := Lib.hid (ok_ps hD hE)
  have HTW := Lib.hid (tw_ps hF)
  have HQ := Lib.hid (one_part (p := way7) hG (PsAt.nil _ _) 1)
  clear hb hA hB hD hE hF hG
  refine (word_any [way7] _ W HQ.out way7_small).mono ?_
  rintro e w1 ⟨rfl, hb⟩
  rw [way7_none]
  have HB1 := Lib.hid hb
  clear hb
  go_wp2_with fail
  refine (word_any okL _ w1 (HOK.out.stays HB1.out) ok_small).mono ?_
  rintro e w2 ⟨rfl, hb⟩
  rw [ok_word]
  have HB2 := Lib.hid (HB1.out.trans (hb.mono HB1.out.size))
  clear hb
  go_wp2_with fail
  refine (word_any twL _ w2 (HTW.out.stays HB2.out) tw_small).mono ?_
  rintro e w3 ⟨rfl, hb⟩
  rw [tw_word]
  have HB3 := Lib.hid (HB2.out.trans (hb.mono HB2.out.size))
  clear hb
  go_wp2_with fail
  refine (word_any [] _ w3 (PsAt.nil _ _) Small.nil).mono ?_
  rintro e w4 ⟨rfl, hb⟩
  rw [no_word]
  have HB4 := Lib.hid (HB.out.trans ((HB3.out.trans (hb.mono HB3.out.size)).mono HB.out.size))
  clear hb
  go_wp2_with fail
  refine (known_any w4 (HS.out.below HB4.out)).mono ?_
  rintro e w5 ⟨rfl, hb⟩
  have HB5 := Lib.hid (HB4.out.trans (hb.mono HB4.out.size))
  clear hb
  go_wp2_with fail
  go_ret
  exact ⟨rfl, HB5.out⟩
set_option maxHeartbeats 1000000 in
set_option maxRecDepth 100000 in
theorem words_8 (w : World) (hS : Shapes w) : Calls Tryd.prog 5 #[.int .i64 8] w fun e w' => e = .returned (.bool true) ∧ Below w.heap.size w w' := by
  have HS := Lib.hid hS
  clear hS
  go_enter Tryd.func5, Tryd.ntmps5
  go_wp2_with fail
  refine calls_seven fun W hb hA hB _ hD hE hF hG => ?_
  have HB := Lib.hid hb
  have HOK := Lib.hid (ok_ps hD hE)
  have HTW := Lib.hid (tw_ps hF)
  have HQ := Lib.hid (one_part (p := way8) hG (PsAt.nil _ _) 1)
  clear hb hA hB hD hE hF hG
  refine (word_any [way8] _ W HQ.out way8_small).mono ?_
  rintro e w1 ⟨rfl, hb⟩
  rw [way8_none]
  have HB1 := Lib.hid hb
  clear hb
  go_wp2_with fail
  refine (word_any okL _ w1 (HOK.out.stays HB1.out) ok_small).mono ?_
  rintro e w2 ⟨rfl, hb⟩
  rw [ok_word]
  have HB2 := Lib.hid (HB1.out.trans (hb.mono HB1.out.size))
  clear hb
  go_wp2_with fail
  refine (word_any twL _ w2 (HTW.out.stays HB2.out) tw_small).mono ?_
  rintro e w3 ⟨rfl, hb⟩
  rw [tw_word]
  have HB3 := Lib.hid (HB2.out.trans (hb.mono HB2.out.size))
  clear hb
  go_wp2_with fail
  refine (word_any [] _ w3 (PsAt.nil _ _) Small.nil).mono ?_
  rintro e w4 ⟨rfl, hb⟩
  rw [no_word]
  have HB4 := Lib.hid (HB.out.trans ((HB3.out.trans (hb.mono HB3.out.size)).mono HB.out.size))
  clear hb
  go_wp2_with fail
  refine (known_any w4 (HS.out.below HB4.out)).mono ?_
  rintro e w5 ⟨rfl, hb⟩
  have HB5 := Lib.hid (HB4.out.trans (hb.mono HB4.out.size))
  clear hb
  go_wp2_with fail
  go_ret
  exact ⟨rfl, HB5.out⟩
set_option maxHeartbeats 1000000 in
set_option maxRecDepth 100000 in
theorem words_9 (w : World) (hS : Shapes w) : Calls Tryd.prog 5 #[.int .i64 9] w fun e w' => e = .returned (.bool true) ∧ Below w.heap.size w w' := by
  have HS := Lib.hid hS
  clear hS
  go_enter Tryd.func5, Tryd.ntmps5
  go_wp2_with fail
  refine calls_seven fun W hb hA hB _ hD hE hF hG => ?_
  have HB := Lib.hid hb
  have HOK := Lib.hid (ok_ps hD hE)
  have HTW := Lib.hid (tw_ps hF)
  have HQ := Lib.hid (one_part (p := way9) hG (PsAt.nil _ _) 1)
  clear hb hA hB hD hE hF hG
  refine (word_any [way9] _ W HQ.out way9_small).mono ?_
  rintro e w1 ⟨rfl, hb⟩
  rw [way9_none]
  have HB1 := Lib.hid hb
  clear hb
  go_wp2_with fail
  refine (word_any okL _ w1 (HOK.out.stays HB1.out) ok_small).mono ?_
  rintro e w2 ⟨rfl, hb⟩
  rw [ok_word]
  have HB2 := Lib.hid (HB1.out.trans (hb.mono HB1.out.size))
  clear hb
  go_wp2_with fail
  refine (word_any twL _ w2 (HTW.out.stays HB2.out) tw_small).mono ?_
  rintro e w3 ⟨rfl, hb⟩
  rw [tw_word]
  have HB3 := Lib.hid (HB2.out.trans (hb.mono HB2.out.size))
  clear hb
  go_wp2_with fail
  refine (word_any [] _ w3 (PsAt.nil _ _) Small.nil).mono ?_
  rintro e w4 ⟨rfl, hb⟩
  rw [no_word]
  have HB4 := Lib.hid (HB.out.trans ((HB3.out.trans (hb.mono HB3.out.size)).mono HB.out.size))
  clear hb
  go_wp2_with fail
  refine (known_any w4 (HS.out.below HB4.out)).mono ?_
  rintro e w5 ⟨rfl, hb⟩
  have HB5 := Lib.hid (HB4.out.trans (hb.mono HB4.out.size))
  clear hb
  go_wp2_with fail
  go_ret
  exact ⟨rfl, HB5.out⟩
set_option maxHeartbeats 1000000 in
set_option maxRecDepth 100000 in
theorem words_10 (w : World) (hS : Shapes w) : Calls Tryd.prog 5 #[.int .i64 10] w fun e w' => e = .returned (.bool true) ∧ Below w.heap.size w w' := by
  have HS := Lib.hid hS
  clear hS
  go_enter Tryd.func5, Tryd.ntmps5
  go_wp2_with fail
  refine calls_seven fun W hb hA hB _ hD hE hF hG => ?_
  have HB := Lib.hid hb
  have HOK := Lib.hid (ok_ps hD hE)
  have HTW := Lib.hid (tw_ps hF)
  have HQ := Lib.hid (one_part (p := way10) hG (one_part (p := ⟨1, [97], [], [], false⟩) hA (PsAt.nil _ _) 1) 1)
  clear hb hA hB hD hE hF hG
  refine (word_any [way10] _ W HQ.out way10_small).mono ?_
  rintro e w1 ⟨rfl, hb⟩
  rw [way10_none]
  have HB1 := Lib.hid hb
  clear hb
  go_wp2_with fail
  refine (word_any okL _ w1 (HOK.out.stays HB1.out) ok_small).mono ?_
  rintro e w2 ⟨rfl, hb⟩
  rw [ok_word]
  have HB2 := Lib.hid (HB1.out.trans (hb.mono HB1.out.size))
  clear hb
  go_wp2_with fail
  refine (word_any twL _ w2 (HTW.out.stays HB2.out) tw_small).mono ?_
  rintro e w3 ⟨rfl, hb⟩
  rw [tw_word]
  have HB3 := Lib.hid (HB2.out.trans (hb.mono HB2.out.size))
  clear hb
  go_wp2_with fail
  refine (word_any [] _ w3 (PsAt.nil _ _) Small.nil).mono ?_
  rintro e w4 ⟨rfl, hb⟩
  rw [no_word]
  have HB4 := Lib.hid (HB.out.trans ((HB3.out.trans (hb.mono HB3.out.size)).mono HB.out.size))
  clear hb
  go_wp2_with fail
  refine (known_any w4 (HS.out.below HB4.out)).mono ?_
  rintro e w5 ⟨rfl, hb⟩
  have HB5 := Lib.hid (HB4.out.trans (hb.mono HB4.out.size))
  clear hb
  go_wp2_with fail
  go_ret
  exact ⟨rfl, HB5.out⟩
set_option maxHeartbeats 1000000 in
set_option maxRecDepth 100000 in
theorem words_11 (w : World) (hS : Shapes w) : Calls Tryd.prog 5 #[.int .i64 11] w fun e w' => e = .returned (.bool true) ∧ Below w.heap.size w w' := by
  have HS := Lib.hid hS
  clear hS
  go_enter Tryd.func5, Tryd.ntmps5
  go_wp2_with fail
  refine calls_seven fun W hb hA hB _ hD hE hF hG => ?_
  have HB := Lib.hid hb
  have HOK := Lib.hid (ok_ps hD hE)
  have HTW := Lib.hid (tw_ps hF)
  have HQ := Lib.hid (one_part (p := way11) hG (PsAt.nil _ _) 1)
  clear hb hA hB hD hE hF hG
  refine (word_any [way11] _ W HQ.out way11_small).mono ?_
  rintro e w1 ⟨rfl, hb⟩
  rw [way11_none]
  have HB1 := Lib.hid hb
  clear hb
  go_wp2_with fail
  refine (word_any okL _ w1 (HOK.out.stays HB1.out) ok_small).mono ?_
  rintro e w2 ⟨rfl, hb⟩
  rw [ok_word]
  have HB2 := Lib.hid (HB1.out.trans (hb.mono HB1.out.size))
  clear hb
  go_wp2_with fail
  refine (word_any twL _ w2 (HTW.out.stays HB2.out) tw_small).mono ?_
  rintro e w3 ⟨rfl, hb⟩
  rw [tw_word]
  have HB3 := Lib.hid (HB2.out.trans (hb.mono HB2.out.size))
  clear hb
  go_wp2_with fail
  refine (word_any [] _ w3 (PsAt.nil _ _) Small.nil).mono ?_
  rintro e w4 ⟨rfl, hb⟩
  rw [no_word]
  have HB4 := Lib.hid (HB.out.trans ((HB3.out.trans (hb.mono HB3.out.size)).mono HB.out.size))
  clear hb
  go_wp2_with fail
  refine (known_any w4 (HS.out.below HB4.out)).mono ?_
  rintro e w5 ⟨rfl, hb⟩
  have HB5 := Lib.hid (HB4.out.trans (hb.mono HB4.out.size))
  clear hb
  go_wp2_with fail
  go_ret
  exact ⟨rfl, HB5.out⟩
end Go.Proofs.YtloaalapkmbgeaaDoor
