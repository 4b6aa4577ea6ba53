/-
  Proved: the library's search of a letter that is no ASCII in a short ASCII text finds none; a letter in the program's sets of letters. Conditions: a letter that a text may have.
-/
import Derived.Test.YtloaalapkmbgeaaDoorGlyphCode
import Derived.Test.YtloaalapkmbgeaaDoorLexMath
import Derived.Test.YtloaalapkmbgeaaDoorShelf
import Derived.RegionTactic
import Derived.Deep.QuietTactic
import Derived.BigQuiet
import Derived.BigCall
import Derived.BigGuard
import Derived.Lib.IndexLaws
import Derived.Laws.Runes
namespace Go.Proofs.YtloaalapkmbgeaaDoor
open Go Go.RowKit GlyphMath LexMath

theorem valid_good {r : Nat} (h : GoodL r) : Utf8.valid (r : Int) = true := by
  obtain ⟨h0, h1, h2⟩ := h
  simp only [Utf8.valid, Bool.or_eq_true, Bool.and_eq_true, decide_eq_true_eq]
  omega
theorem validRune_good {r : Nat} (h : GoodL r) : Lib.validRune (r : Int) = true := by
  obtain ⟨h0, h1, h2⟩ := h
  simp only [Lib.validRune, decide_eq_true_eq]
  omega
theorem indexByte_not : ∀ (l : List UInt8) (c : UInt8), (∀ b ∈ l, b ≠ c) → Lib.indexByte l c = -1
  | [], _, _ => rfl
  | b :: l, c, h => by
    have h1 : (b == c) = false := by simpa using h b (by simp)
    have ih := indexByte_not l c fun x hx => h x (List.mem_cons_of_mem _ hx)
    unfold Lib.indexByte
    rw [h1, ih]; rfl

set_option maxRecDepth 1000000 in
theorem index_none (s : ByteArray) (w : World) (hs : ∀ b ∈ s.data.toList, b.toNat < 128) :
    Calls Tryd.prog 92 #[.string s, .int .i32 65533] w fun e w' => e = .returned (.int .i64 (-1)) ∧ Below w.heap.size w w' := by
  have HS := Lib.hid hs
  clear hs
  go_enter Tryd.func92, Tryd.ntmps92
  go_wp2_with fail
  go_loopw [] (fun w' => ∃ (pos : Nat), w' = w.iter s pos) (fun w' => s.size - w'.iterPos w.heap.size)
  case atStart => exact ⟨0, rfl⟩
  case round =>
    obtain ⟨pos, rfl⟩ := hrel
    by_cases hp : pos < s.size
    · have hlow : (s[pos]'hp).toNat < 128 := HS.out _ (by
        rw [ByteArray.getElem_eq_getElem_data]
        exact Array.getElem_mem_toList ..)
      have hnx : ∀ ty, (Instr.next (.pointer (some ⟨w.heap.size, 0, none⟩)) true ty).run Tryd.prog (w.iter s pos) = .ok (.tuple #[.bool true, .int .i64 pos, .int .i32 (((s[pos]'hp).toNat : Nat) : Int)]) (w.iter s (pos + 1)) := fun ty => by rw [run_next_any w s pos ty hp, decode_ascii s pos hp hlow]
      obtain ⟨b, hb⟩ : ∃ b, (s[pos]'hp).toNat = b := ⟨_, rfl⟩
      rw [hb] at hnx hlow
      have hb1 : ((b : Int) == 65533) = false := by
        have : ¬ (b : Int) = 65533 := by omega
        simpa using this
      clear hb hlow
      go_wp2_with fail
      go_roundw
      case rel => exact ⟨pos + 1, rfl⟩
      case measure => simp; omega
    · have hnx : ∀ ty, (Instr.next (.pointer (some ⟨w.heap.size, 0, none⟩)) true ty).run Tryd.prog (w.iter s pos) = _ := fun ty => run_next_end w s pos ty hp
      go_wp2_with fail
      go_ret
      exact ⟨rfl, below_iter w s pos⟩
end Go.Proofs.YtloaalapkmbgeaaDoor
