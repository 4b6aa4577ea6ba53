/-
  Proved: rows of a pattern's letters put one behind the other; contract of Match by what comes of it. Conditions: as each says.
-/
import Derived.Test.YtpgmlbdfmcbgoaaDoorGlKnown
import Derived.Test.YtpgmlbdfmcbgoaaDoorGlSelfM
namespace Go.Proofs.YtpgmlbdfmcbgoaaDoor
open Go Go.RowKit GlyphMath GlMath

theorem RowC.below {w w' : World} {B : Nat} {v : Value} {l : List Ch} (h : RowC w B v l) (hb : Below w.heap.size w w') : RowC w' B v l := by
  refine World.ownsRow.kept h (grown_of_below hb) ?_
  cases hv : v.ownBlock with
  | none => exact .inl rfl
  | some k => exact .inr (by simp)
theorem chC_one : ∀ (l : List Ch), ∀ u ∈ chC l, u.oneCell' = true
  | [], u, h => by simp [chC] at h
  | c :: l, u, h => by
    simp only [chC, List.mem_cons] at h
    rcases h with rfl | rfl | h
    · rfl
    · rfl
    · exact chC_one l u h
theorem RowC.app {w w4 w5 : World} {v1 v5 : Value} {l1 l2 : List Ch} (hb : Below w.heap.size w w4) (hr : RowC w4 w.heap.size v1 l1)
    (hown : w5.ownsRow w.heap.size 35 2 v5 (l1.length + l2.length) (chC l1 ++ chC l2)) (hg : w4.grownBy w5 v1.ownBlock) : RowC w5 w.heap.size v5 (l1 ++ l2) ∧ Below w.heap.size w w5 := by
  refine ⟨?_, hb.grown hg hb.size fun k e => (World.ownsRow.lt hr k e).1⟩
  unfold RowC
  rw [List.length_append, chC_append]
  exact hown
theorem RowC.news {w : World} {B g n c : Nat} {l : List Ch} (h : RowC w B (.slice (some ⟨g, 0, none⟩) n c) l) : ∀ j u, (chC l)[j]? = some u → w.cell? ((⟨g, 0, none⟩ : Addr).add j) = some u := World.ownsRow.cells h rfl
theorem match_D (l : List Ch) (v : Value) (s : ByteArray) (D : Bool) (w : World) (h : ChAt w v l) (hl : l.length ≤ 100000) (hs : s.size ≤ 1000) (hD : globM l (toI (letters s)) = D) :
    Calls Tryd.prog 8 #[v, .string s] w fun e w' => e = .returned (.bool D) ∧ Below w.heap.size w w' := by
  rw [← hD]
  exact match_in l v s w h hl hs
end Go.Proofs.YtpgmlbdfmcbgoaaDoor
