/-
  Proved: the walk of the law TreeWords: it answers true and changes nothing that was there. Conditions: the program's shapes lie as they should.
-/
import Derived.Test.YtloaalapkmbgeaaDoorTreeWordsA
import Derived.Test.YtloaalapkmbgeaaDoorTreeWordsB
import Derived.Test.YtloaalapkmbgeaaDoorTreeWordsC
namespace Go.Proofs.YtloaalapkmbgeaaDoor
open Go Go.RowKit GlyphMath LexMath TreeMath


theorem below_three (w : World) (A B C : Obj) : Below w.heap.size w (((w.alloc A).alloc B).alloc C) := (below_two w A B).alloc (by simp; omega) _
set_option maxHeartbeats 1000000 in
set_option maxRecDepth 100000 in
theorem words_law (n : Int) (w : World) (hS : Shapes w) : Calls Tryd.prog 5 #[.int .i64 n] w fun e w' => e = .returned (.bool true) ∧ Below w.heap.size w w' := by
  by_cases h0 : n < 0
  · clear hS
    go_enter Tryd.func5, Tryd.ntmps5
    go_wp2_with fail
    go_ret
    exact ⟨rfl, below_three _ _ _ _⟩
  by_cases h18 : 18 ≤ n
  · clear hS
    go_enter Tryd.func5, Tryd.ntmps5
    go_wp2_with fail
    go_ret
    exact ⟨rfl, below_three _ _ _ _⟩
  have : n = 0 ∨ n = 1 ∨ n = 2 ∨ n = 3 ∨ n = 4 ∨ n = 5 ∨ n = 6 ∨ n = 7 ∨ n = 8 ∨ n = 9 ∨ n = 10 ∨ n = 11 ∨ n = 12 ∨ n = 13 ∨ n = 14 ∨ n = 15 ∨ n = 16 ∨ n = 17 := by omega
  rcases this with rfl | rfl | rfl | rfl | rfl | rfl | rfl | rfl | rfl | rfl | rfl | rfl | rfl | rfl | rfl | rfl | rfl | rfl
  · exact words_0 w hS
  · exact words_1 w hS
  · exact words_2 w hS
  · exact words_3 w hS
  · exact words_4 w hS
  · exact words_5 w hS
  · exact words_6 w hS
  · exact words_7 w hS
  · exact words_8 w hS
  · exact words_9 w hS
  · exact words_10 w hS
  · exact words_11 w hS
  · exact words_12 w hS
  · exact words_13 w hS
  · exact words_14 w hS
  · exact words_15 w hS
  · exact words_16 w hS
  · exact words_17 w hS
end Go.Proofs.YtloaalapkmbgeaaDoor
