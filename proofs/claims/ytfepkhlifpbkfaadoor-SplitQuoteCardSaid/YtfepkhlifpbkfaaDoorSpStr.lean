/-
  Proved: rows of texts that the call owns. Conditions: as each says.
-/
import Derived.Test.YtfepkhlifpbkfaaDoorSpEnd
namespace Go.Proofs.YtfepkhlifpbkfaaDoor
open Go Go.RowKit GlyphMath SpMath

theorem infoStr : (Tryd.prog.info? 9).map (fun i => (i.zero, i.size, i.bytes)) = some (some (.string ByteArray.empty : Value), 1, 16) := by kernel_rfl
theorem grown_drew {w w' : World} {row : Option Nat} (h : w.grownBy w' row) : w.drew.grownBy w' row := ⟨h.os, h.tape, h.output, h.size, h.block⟩
/-- Texts of the call's own. -/
def RowS (w : World) (B : Nat) (v : Value) (l : List ByteArray) : Prop := w.ownsRow B 9 1 v l.length (l.flatMap sC)
theorem RowS.add {w : World} {B n : Nat} {v : Value} {l : List ByteArray} {x : ByteArray} (hn : l.length = n) (h : w.ownsRow B 9 1 v (n + 1) (l.flatMap sC ++ [.string x])) : RowS w B v (l ++ [x]) := by
  unfold RowS
  rw [List.length_append, List.flatMap_append, List.length_singleton, hn]
  exact h
theorem str_news (w : World) (a : ByteArray) : ∀ j u, ([.string a] : List Value)[j]? = some u → (w.alloc (.cells #[.string a] 9)).cell? ((⟨w.heap.size, 0, none⟩ : Addr).add j) = some u := fun j u hu => World.news_of_block (heap_alloc_new w _) j u (by simpa using hu)
theorem str_one (a : ByteArray) : ∀ u ∈ ([.string a] : List Value), u.oneCell' = true := fun u hu => by rw [List.mem_singleton.1 hu]; rfl
end Go.Proofs.YtfepkhlifpbkfaaDoor
