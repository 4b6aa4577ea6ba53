/-
  Proved: the walk of the law LexWords: it answers true and changes nothing that was there. Conditions: the program's signs lie as they should.
-/
import Derived.Test.YtpifbpfmjmcchaaDoorLexKnownB
import Derived.Deep.RegionHeld
namespace Go.Proofs.YtpifbpfmjmcchaaDoor
open Go Go.RowKit GlyphMath LexMath

/-- Blocks that are made one behind the other. -/
def allocAll : World → List Obj → World
  | w, [] => w
  | w, o :: r => allocAll (w.alloc o) r
theorem allocAll_size : ∀ (os : List Obj) (w : World), (allocAll w os).heap.size = w.heap.size + os.length
  | [], _ => rfl
  | o :: r, w => by rw [allocAll, allocAll_size r, List.length_cons]; simp; omega
theorem allocAll_old : ∀ (os : List Obj) (w : World) (j : Nat), j < w.heap.size → (allocAll w os).heap[j]? = w.heap[j]?
  | [], _, _, _ => rfl
  | o :: r, w, j, h => by rw [allocAll, allocAll_old r _ j (by simp; omega)]; exact Below.heap_alloc w o j h
theorem allocAll_new : ∀ (os : List Obj) (w : World) (j : Nat) (o : Obj), os[j]? = some o → (allocAll w os).heap[w.heap.size + j]? = some o
  | [], _, _, _, h => by simp at h
  | o :: r, w, 0, x, h => by
    simp only [List.getElem?_cons_zero, Option.some.injEq] at h
    subst h
    rw [allocAll, allocAll_old r _ _ (by simp)]
    exact heap_alloc_new w o
  | o :: r, w, j + 1, x, h => by
    simp only [List.getElem?_cons_succ] at h
    have := allocAll_new r (w.alloc o) j x h
    rw [allocAll, ← this]
    congr 1
    simp; omega
theorem allocAll_below : ∀ (os : List Obj) (w w0 : World), Below w0.heap.size w0 w → Below w0.heap.size w0 (allocAll w os)
  | [], _, _, h => h
  | o :: r, w, w0, h => allocAll_below r (w.alloc o) w0 (h.alloc h.size o)

/-- A row of parts in a block. -/
theorem WordV.blk {w : World} {F : Nat → Prop} {b : Nat} {cs : Array Value} (hb : w.heap[b]? = some (.cells cs 25 (0, 0))) (ps : List Pt) (vs : List Value) (hcs : cs.toList = rowCells ps vs) (hl : ps.length = vs.length) (hm : ps.length ≤ maxLen) (hF : F b)
    (hs : ∀ (j : Nat) (p : Pt) (u : Value), ps[j]? = some p → vs[j]? = some u → WordV w F u p.word) : WordV w F (.slice (some ⟨b, 0, none⟩) ps.length ps.length) ps := by
  refine .row _ _ vs ⟨rowCells_length ps vs hl, .inr ⟨b, ps.length, cs, rfl, Nat.zero_le _, hb, Nat.le_refl _, hm, ?_, ?_⟩⟩ hl (fun g hg => ?_) hs
  · rw [← Array.length_toList, hcs, rowCells_length ps vs hl]
  · rw [hcs, ← rowCells_length ps vs hl, List.take_length]
  · cases hg; exact hF

theorem nil_subs {w : World} {F : Nat → Prop} : ∀ (ps : List Pt), (ps.all fun p => p.word.isEmpty) = true → ∀ (j : Nat) (p : Pt) (u : Value), ps[j]? = some p → (ps.map fun _ => Value.slice none 0 0)[j]? = some u → WordV w F u p.word := by
  intro ps h j p u hp hu
  rw [List.getElem?_map, hp] at hu
  cases hu
  have := (List.all_eq_true.1 h) p (List.mem_of_getElem? hp)
  rw [List.isEmpty_iff.1 this]
  exact WordV.nil _ _
def wordObjs (b : Nat) : List Obj := [.cells #[.string ⟨#[39, 39]⟩, .string ⟨#[97, 92, 32, 98]⟩, .string ⟨#[39, 97, 36, 98, 39]⟩, .string ⟨#[34, 97, 92, 110, 92, 34, 34]⟩, .string ⟨#[36, 123, 120, 58, 45, 97, 32, 98, 125]⟩, .string ⟨#[36, 123, 35, 120, 125]⟩, .string ⟨#[36, 49, 36, 64]⟩, .string ⟨#[36, 40, 40, 49, 32, 43, 32, 40, 50, 41, 41, 41]⟩, .string ⟨#[36]⟩, .string ⟨#[34, 36, 34]⟩, .string ⟨#[97, 39, 39, 98]⟩, .string ⟨#[36, 123, 120, 58, 61, 39, 36, 39, 125]⟩, .string ⟨#[34, 36, 123, 120, 58, 45, 39, 121, 32, 122, 39, 125, 34]⟩, .string ⟨#[195, 169, 36, 195, 169]⟩] 9,
  .cells #[.int .i64 1, .string ⟨#[]⟩, .string ⟨#[]⟩, .slice none 0 0, .bool true] 25,
  .cells #[.int .i64 1, .string ⟨#[]⟩, .string ⟨#[]⟩, .slice none 0 0, .bool true] 25,
  .cells #[.int .i64 1, .string ⟨#[97]⟩, .string ⟨#[]⟩, .slice none 0 0, .bool false] 25,
  .cells #[.int .i64 1, .string ⟨#[32]⟩, .string ⟨#[]⟩, .slice none 0 0, .bool true] 25,
  .cells #[.int .i64 1, .string ⟨#[98]⟩, .string ⟨#[]⟩, .slice none 0 0, .bool false] 25,
  .cells #[.int .i64 1, .string ⟨#[97]⟩, .string ⟨#[]⟩, .slice none 0 0, .bool false, .int .i64 1, .string ⟨#[32]⟩, .string ⟨#[]⟩, .slice none 0 0, .bool true, .int .i64 1, .string ⟨#[98]⟩, .string ⟨#[]⟩, .slice none 0 0, .bool false] 25,
  .cells #[.int .i64 1, .string ⟨#[97, 36, 98]⟩, .string ⟨#[]⟩, .slice none 0 0, .bool true] 25,
  .cells #[.int .i64 1, .string ⟨#[97, 36, 98]⟩, .string ⟨#[]⟩, .slice none 0 0, .bool true] 25,
  .cells #[.int .i64 1, .string ⟨#[97, 92, 110, 34]⟩, .string ⟨#[]⟩, .slice none 0 0, .bool true] 25,
  .cells #[.int .i64 1, .string ⟨#[97, 92, 110, 34]⟩, .string ⟨#[]⟩, .slice none 0 0, .bool true] 25,
  .cells #[.int .i64 1, .string ⟨#[97, 32, 98]⟩, .string ⟨#[]⟩, .slice none 0 0, .bool false] 25,
  .cells #[.int .i64 1, .string ⟨#[97, 32, 98]⟩, .string ⟨#[]⟩, .slice none 0 0, .bool false] 25,
  .cells #[.int .i64 2, .string ⟨#[120]⟩, .string ⟨#[58, 45]⟩, .slice (some ⟨b + 12, 0, none⟩) 1 1, .bool false] 25,
  .cells #[.int .i64 2, .string ⟨#[120]⟩, .string ⟨#[35]⟩, .slice none 0 0, .bool false] 25,
  .cells #[.int .i64 2, .string ⟨#[49]⟩, .string ⟨#[]⟩, .slice none 0 0, .bool false, .int .i64 2, .string ⟨#[64]⟩, .string ⟨#[]⟩, .slice none 0 0, .bool false] 25,
  .cells #[.int .i64 3, .string ⟨#[49, 32, 43, 32, 40, 50, 41]⟩, .string ⟨#[]⟩, .slice none 0 0, .bool false] 25,
  .cells #[.int .i64 1, .string ⟨#[36]⟩, .string ⟨#[]⟩, .slice none 0 0, .bool true] 25,
  .cells #[.int .i64 1, .string ⟨#[36]⟩, .string ⟨#[]⟩, .slice none 0 0, .bool true] 25,
  .cells #[.int .i64 1, .string ⟨#[36]⟩, .string ⟨#[]⟩, .slice none 0 0, .bool true] 25,
  .cells #[.int .i64 1, .string ⟨#[36]⟩, .string ⟨#[]⟩, .slice none 0 0, .bool true] 25,
  .cells #[.int .i64 1, .string ⟨#[97]⟩, .string ⟨#[]⟩, .slice none 0 0, .bool false] 25,
  .cells #[.int .i64 1, .string ⟨#[]⟩, .string ⟨#[]⟩, .slice none 0 0, .bool true] 25,
  .cells #[.int .i64 1, .string ⟨#[98]⟩, .string ⟨#[]⟩, .slice none 0 0, .bool false] 25,
  .cells #[.int .i64 1, .string ⟨#[97]⟩, .string ⟨#[]⟩, .slice none 0 0, .bool false, .int .i64 1, .string ⟨#[]⟩, .string ⟨#[]⟩, .slice none 0 0, .bool true, .int .i64 1, .string ⟨#[98]⟩, .string ⟨#[]⟩, .slice none 0 0, .bool false] 25,
  .cells #[.int .i64 1, .string ⟨#[36]⟩, .string ⟨#[]⟩, .slice none 0 0, .bool true] 25,
  .cells #[.int .i64 1, .string ⟨#[36]⟩, .string ⟨#[]⟩, .slice none 0 0, .bool true] 25,
  .cells #[.int .i64 2, .string ⟨#[120]⟩, .string ⟨#[58, 61]⟩, .slice (some ⟨b + 26, 0, none⟩) 1 1, .bool false] 25,
  .cells #[.int .i64 1, .string ⟨#[121, 32, 122]⟩, .string ⟨#[]⟩, .slice none 0 0, .bool true] 25,
  .cells #[.int .i64 1, .string ⟨#[121, 32, 122]⟩, .string ⟨#[]⟩, .slice none 0 0, .bool true] 25,
  .cells #[.int .i64 2, .string ⟨#[120]⟩, .string ⟨#[58, 45]⟩, .slice (some ⟨b + 29, 0, none⟩) 1 1, .bool true] 25,
  .cells #[.int .i64 1, .string ⟨#[195, 169]⟩, .string ⟨#[]⟩, .slice none 0 0, .bool false] 25,
  .cells #[.int .i64 1, .string ⟨#[36]⟩, .string ⟨#[]⟩, .slice none 0 0, .bool true] 25,
  .cells #[.int .i64 1, .string ⟨#[195, 169]⟩, .string ⟨#[]⟩, .slice none 0 0, .bool false] 25,
  .cells #[.int .i64 1, .string ⟨#[195, 169]⟩, .string ⟨#[]⟩, .slice none 0 0, .bool false, .int .i64 1, .string ⟨#[36]⟩, .string ⟨#[]⟩, .slice none 0 0, .bool true, .int .i64 1, .string ⟨#[195, 169]⟩, .string ⟨#[]⟩, .slice none 0 0, .bool false] 25,
  .cells #[.slice (some ⟨b + 2, 0, none⟩) 1 1, .slice (some ⟨b + 6, 0, none⟩) 3 3, .slice (some ⟨b + 8, 0, none⟩) 1 1, .slice (some ⟨b + 10, 0, none⟩) 1 1, .slice (some ⟨b + 13, 0, none⟩) 1 1, .slice (some ⟨b + 14, 0, none⟩) 1 1, .slice (some ⟨b + 15, 0, none⟩) 2 2, .slice (some ⟨b + 16, 0, none⟩) 1 1, .slice (some ⟨b + 18, 0, none⟩) 1 1, .slice (some ⟨b + 20, 0, none⟩) 1 1, .slice (some ⟨b + 24, 0, none⟩) 3 3, .slice (some ⟨b + 27, 0, none⟩) 1 1, .slice (some ⟨b + 30, 0, none⟩) 1 1, .slice (some ⟨b + 34, 0, none⟩) 3 3] 23]
/-- Where LexWords has laid its texts and parts. -/
def wordsW (w : World) : World := allocAll w (wordObjs w.heap.size)
theorem words_size (w : World) : (wordsW w).heap.size = w.heap.size + 36 := by rw [wordsW, allocAll_size]; rfl
def wpt0 : List Pt := [⟨1, [], [], [], true⟩]
theorem word_model0 : isText ⟨#[39, 39]⟩ = true ∧ tokensL 2 ((letters ⟨#[39, 39]⟩).length + 1) (letters ⟨#[39, 39]⟩) [] = .ok [⟨1, [], wpt0, 0⟩, ⟨3, [], [], 2⟩] := ⟨by kernel_rfl, by kernel_rfl⟩
def wpt1 : List Pt := [⟨1, [97], [], [], false⟩, ⟨1, [32], [], [], true⟩, ⟨1, [98], [], [], false⟩]
theorem word_model1 : isText ⟨#[97, 92, 32, 98]⟩ = true ∧ tokensL 4 ((letters ⟨#[97, 92, 32, 98]⟩).length + 1) (letters ⟨#[97, 92, 32, 98]⟩) [] = .ok [⟨1, [], wpt1, 0⟩, ⟨3, [], [], 4⟩] := ⟨by kernel_rfl, by kernel_rfl⟩
def wpt2 : List Pt := [⟨1, [97, 36, 98], [], [], true⟩]
theorem word_model2 : isText ⟨#[39, 97, 36, 98, 39]⟩ = true ∧ tokensL 5 ((letters ⟨#[39, 97, 36, 98, 39]⟩).length + 1) (letters ⟨#[39, 97, 36, 98, 39]⟩) [] = .ok [⟨1, [], wpt2, 0⟩, ⟨3, [], [], 5⟩] := ⟨by kernel_rfl, by kernel_rfl⟩
def wpt3 : List Pt := [⟨1, [97, 92, 110, 34], [], [], true⟩]
theorem word_model3 : isText ⟨#[34, 97, 92, 110, 92, 34, 34]⟩ = true ∧ tokensL 7 ((letters ⟨#[34, 97, 92, 110, 92, 34, 34]⟩).length + 1) (letters ⟨#[34, 97, 92, 110, 92, 34, 34]⟩) [] = .ok [⟨1, [], wpt3, 0⟩, ⟨3, [], [], 7⟩] := ⟨by kernel_rfl, by kernel_rfl⟩
def wpt4 : List Pt := [⟨2, [120], [58, 45], [⟨1, [97, 32, 98], [], [], false⟩], false⟩]
theorem word_model4 : isText ⟨#[36, 123, 120, 58, 45, 97, 32, 98, 125]⟩ = true ∧ tokensL 9 ((letters ⟨#[36, 123, 120, 58, 45, 97, 32, 98, 125]⟩).length + 1) (letters ⟨#[36, 123, 120, 58, 45, 97, 32, 98, 125]⟩) [] = .ok [⟨1, [], wpt4, 0⟩, ⟨3, [], [], 9⟩] := ⟨by kernel_rfl, by kernel_rfl⟩
def wpt5 : List Pt := [⟨2, [120], [35], [], false⟩]
theorem word_model5 : isText ⟨#[36, 123, 35, 120, 125]⟩ = true ∧ tokensL 5 ((letters ⟨#[36, 123, 35, 120, 125]⟩).length + 1) (letters ⟨#[36, 123, 35, 120, 125]⟩) [] = .ok [⟨1, [], wpt5, 0⟩, ⟨3, [], [], 5⟩] := ⟨by kernel_rfl, by kernel_rfl⟩
def wpt6 : List Pt := [⟨2, [49], [], [], false⟩, ⟨2, [64], [], [], false⟩]
theorem word_model6 : isText ⟨#[36, 49, 36, 64]⟩ = true ∧ tokensL 4 ((letters ⟨#[36, 49, 36, 64]⟩).length + 1) (letters ⟨#[36, 49, 36, 64]⟩) [] = .ok [⟨1, [], wpt6, 0⟩, ⟨3, [], [], 4⟩] := ⟨by kernel_rfl, by kernel_rfl⟩
def wpt7 : List Pt := [⟨3, [49, 32, 43, 32, 40, 50, 41], [], [], false⟩]
theorem word_model7 : isText ⟨#[36, 40, 40, 49, 32, 43, 32, 40, 50, 41, 41, 41]⟩ = true ∧ tokensL 12 ((letters ⟨#[36, 40, 40, 49, 32, 43, 32, 40, 50, 41, 41, 41]⟩).length + 1) (letters ⟨#[36, 40, 40, 49, 32, 43, 32, 40, 50, 41, 41, 41]⟩) [] = .ok [⟨1, [], wpt7, 0⟩, ⟨3, [], [], 12⟩] := ⟨by kernel_rfl, by kernel_rfl⟩
def wpt8 : List Pt := [⟨1, [36], [], [], true⟩]
theorem word_model8 : isText ⟨#[36]⟩ = true ∧ tokensL 1 ((letters ⟨#[36]⟩).length + 1) (letters ⟨#[36]⟩) [] = .ok [⟨1, [], wpt8, 0⟩, ⟨3, [], [], 1⟩] := ⟨by kernel_rfl, by kernel_rfl⟩
def wpt9 : List Pt := [⟨1, [36], [], [], true⟩]
theorem word_model9 : isText ⟨#[34, 36, 34]⟩ = true ∧ tokensL 3 ((letters ⟨#[34, 36, 34]⟩).length + 1) (letters ⟨#[34, 36, 34]⟩) [] = .ok [⟨1, [], wpt9, 0⟩, ⟨3, [], [], 3⟩] := ⟨by kernel_rfl, by kernel_rfl⟩
def wpt10 : List Pt := [⟨1, [97], [], [], false⟩, ⟨1, [], [], [], true⟩, ⟨1, [98], [], [], false⟩]
theorem word_model10 : isText ⟨#[97, 39, 39, 98]⟩ = true ∧ tokensL 4 ((letters ⟨#[97, 39, 39, 98]⟩).length + 1) (letters ⟨#[97, 39, 39, 98]⟩) [] = .ok [⟨1, [], wpt10, 0⟩, ⟨3, [], [], 4⟩] := ⟨by kernel_rfl, by kernel_rfl⟩
def wpt11 : List Pt := [⟨2, [120], [58, 61], [⟨1, [36], [], [], true⟩], false⟩]
theorem word_model11 : isText ⟨#[36, 123, 120, 58, 61, 39, 36, 39, 125]⟩ = true ∧ tokensL 9 ((letters ⟨#[36, 123, 120, 58, 61, 39, 36, 39, 125]⟩).length + 1) (letters ⟨#[36, 123, 120, 58, 61, 39, 36, 39, 125]⟩) [] = .ok [⟨1, [], wpt11, 0⟩, ⟨3, [], [], 9⟩] := ⟨by kernel_rfl, by kernel_rfl⟩
def wpt12 : List Pt := [⟨2, [120], [58, 45], [⟨1, [121, 32, 122], [], [], true⟩], true⟩]
theorem word_model12 : isText ⟨#[34, 36, 123, 120, 58, 45, 39, 121, 32, 122, 39, 125, 34]⟩ = true ∧ tokensL 13 ((letters ⟨#[34, 36, 123, 120, 58, 45, 39, 121, 32, 122, 39, 125, 34]⟩).length + 1) (letters ⟨#[34, 36, 123, 120, 58, 45, 39, 121, 32, 122, 39, 125, 34]⟩) [] = .ok [⟨1, [], wpt12, 0⟩, ⟨3, [], [], 13⟩] := ⟨by kernel_rfl, by kernel_rfl⟩
def wpt13 : List Pt := [⟨1, [195, 169], [], [], false⟩, ⟨1, [36], [], [], true⟩, ⟨1, [195, 169], [], [], false⟩]
theorem word_model13 : isText ⟨#[195, 169, 36, 195, 169]⟩ = true ∧ tokensL 5 ((letters ⟨#[195, 169, 36, 195, 169]⟩).length + 1) (letters ⟨#[195, 169, 36, 195, 169]⟩) [] = .ok [⟨1, [], wpt13, 0⟩, ⟨3, [], [], 5⟩] := ⟨by kernel_rfl, by kernel_rfl⟩
theorem word_mem0 (w : World) : WordV (wordsW w) (fun g => w.heap.size ≤ g ∧ g < (wordsW w).heap.size) (.slice (some ⟨w.heap.size + 2, 0, none⟩) 1 1) wpt0 := by
  exact WordV.blk (allocAll_new (wordObjs w.heap.size) w 2 _ rfl) wpt0 [.slice none 0 0] rfl rfl (by decide) (by rw [words_size]; omega) (nil_subs wpt0 (by decide))
theorem word_mem1 (w : World) : WordV (wordsW w) (fun g => w.heap.size ≤ g ∧ g < (wordsW w).heap.size) (.slice (some ⟨w.heap.size + 6, 0, none⟩) 3 3) wpt1 := by
  exact WordV.blk (allocAll_new (wordObjs w.heap.size) w 6 _ rfl) wpt1 [.slice none 0 0, .slice none 0 0, .slice none 0 0] rfl rfl (by decide) (by rw [words_size]; omega) (nil_subs wpt1 (by decide))
theorem word_mem2 (w : World) : WordV (wordsW w) (fun g => w.heap.size ≤ g ∧ g < (wordsW w).heap.size) (.slice (some ⟨w.heap.size + 8, 0, none⟩) 1 1) wpt2 := by
  exact WordV.blk (allocAll_new (wordObjs w.heap.size) w 8 _ rfl) wpt2 [.slice none 0 0] rfl rfl (by decide) (by rw [words_size]; omega) (nil_subs wpt2 (by decide))
theorem word_mem3 (w : World) : WordV (wordsW w) (fun g => w.heap.size ≤ g ∧ g < (wordsW w).heap.size) (.slice (some ⟨w.heap.size + 10, 0, none⟩) 1 1) wpt3 := by
  exact WordV.blk (allocAll_new (wordObjs w.heap.size) w 10 _ rfl) wpt3 [.slice none 0 0] rfl rfl (by decide) (by rw [words_size]; omega) (nil_subs wpt3 (by decide))
theorem word_mem4 (w : World) : WordV (wordsW w) (fun g => w.heap.size ≤ g ∧ g < (wordsW w).heap.size) (.slice (some ⟨w.heap.size + 13, 0, none⟩) 1 1) wpt4 := by
  have h0 : WordV (wordsW w) (fun g => w.heap.size ≤ g ∧ g < (wordsW w).heap.size) (.slice (some ⟨w.heap.size + 12, 0, none⟩) 1 1) [⟨1, [97, 32, 98], [], [], false⟩] :=
    WordV.blk (allocAll_new (wordObjs w.heap.size) w 12 _ rfl) [⟨1, [97, 32, 98], [], [], false⟩] [.slice none 0 0] rfl rfl (by decide) (by rw [words_size]; omega) (nil_subs [⟨1, [97, 32, 98], [], [], false⟩] (by decide))
  exact WordV.blk (allocAll_new (wordObjs w.heap.size) w 13 _ rfl) wpt4 [.slice (some ⟨w.heap.size + 12, 0, none⟩) 1 1] rfl rfl (by decide) (by rw [words_size]; omega) (fun j p u hp hu => by
    rcases j with _ | j
    · cases hp; cases hu; exact h0
    · simp [wpt4] at hp)
theorem word_mem5 (w : World) : WordV (wordsW w) (fun g => w.heap.size ≤ g ∧ g < (wordsW w).heap.size) (.slice (some ⟨w.heap.size + 14, 0, none⟩) 1 1) wpt5 := by
  exact WordV.blk (allocAll_new (wordObjs w.heap.size) w 14 _ rfl) wpt5 [.slice none 0 0] rfl rfl (by decide) (by rw [words_size]; omega) (nil_subs wpt5 (by decide))
theorem word_mem6 (w : World) : WordV (wordsW w) (fun g => w.heap.size ≤ g ∧ g < (wordsW w).heap.size) (.slice (some ⟨w.heap.size + 15, 0, none⟩) 2 2) wpt6 := by
  exact WordV.blk (allocAll_new (wordObjs w.heap.size) w 15 _ rfl) wpt6 [.slice none 0 0, .slice none 0 0] rfl rfl (by decide) (by rw [words_size]; omega) (nil_subs wpt6 (by decide))
theorem word_mem7 (w : World) : WordV (wordsW w) (fun g => w.heap.size ≤ g ∧ g < (wordsW w).heap.size) (.slice (some ⟨w.heap.size + 16, 0, none⟩) 1 1) wpt7 := by
  exact WordV.blk (allocAll_new (wordObjs w.heap.size) w 16 _ rfl) wpt7 [.slice none 0 0] rfl rfl (by decide) (by rw [words_size]; omega) (nil_subs wpt7 (by decide))
theorem word_mem8 (w : World) : WordV (wordsW w) (fun g => w.heap.size ≤ g ∧ g < (wordsW w).heap.size) (.slice (some ⟨w.heap.size + 18, 0, none⟩) 1 1) wpt8 := by
  exact WordV.blk (allocAll_new (wordObjs w.heap.size) w 18 _ rfl) wpt8 [.slice none 0 0] rfl rfl (by decide) (by rw [words_size]; omega) (nil_subs wpt8 (by decide))
theorem word_mem9 (w : World) : WordV (wordsW w) (fun g => w.heap.size ≤ g ∧ g < (wordsW w).heap.size) (.slice (some ⟨w.heap.size + 20, 0, none⟩) 1 1) wpt9 := by
  exact WordV.blk (allocAll_new (wordObjs w.heap.size) w 20 _ rfl) wpt9 [.slice none 0 0] rfl rfl (by decide) (by rw [words_size]; omega) (nil_subs wpt9 (by decide))
theorem word_mem10 (w : World) : WordV (wordsW w) (fun g => w.heap.size ≤ g ∧ g < (wordsW w).heap.size) (.slice (some ⟨w.heap.size + 24, 0, none⟩) 3 3) wpt10 := by
  exact WordV.blk (allocAll_new (wordObjs w.heap.size) w 24 _ rfl) wpt10 [.slice none 0 0, .slice none 0 0, .slice none 0 0] rfl rfl (by decide) (by rw [words_size]; omega) (nil_subs wpt10 (by decide))
theorem word_mem11 (w : World) : WordV (wordsW w) (fun g => w.heap.size ≤ g ∧ g < (wordsW w).heap.size) (.slice (some ⟨w.heap.size + 27, 0, none⟩) 1 1) wpt11 := by
  have h0 : WordV (wordsW w) (fun g => w.heap.size ≤ g ∧ g < (wordsW w).heap.size) (.slice (some ⟨w.heap.size + 26, 0, none⟩) 1 1) [⟨1, [36], [], [], true⟩] :=
    WordV.blk (allocAll_new (wordObjs w.heap.size) w 26 _ rfl) [⟨1, [36], [], [], true⟩] [.slice none 0 0] rfl rfl (by decide) (by rw [words_size]; omega) (nil_subs [⟨1, [36], [], [], true⟩] (by decide))
  exact WordV.blk (allocAll_new (wordObjs w.heap.size) w 27 _ rfl) wpt11 [.slice (some ⟨w.heap.size + 26, 0, none⟩) 1 1] rfl rfl (by decide) (by rw [words_size]; omega) (fun j p u hp hu => by
    rcases j with _ | j
    · cases hp; cases hu; exact h0
    · simp [wpt11] at hp)
theorem word_mem12 (w : World) : WordV (wordsW w) (fun g => w.heap.size ≤ g ∧ g < (wordsW w).heap.size) (.slice (some ⟨w.heap.size + 30, 0, none⟩) 1 1) wpt12 := by
  have h0 : WordV (wordsW w) (fun g => w.heap.size ≤ g ∧ g < (wordsW w).heap.size) (.slice (some ⟨w.heap.size + 29, 0, none⟩) 1 1) [⟨1, [121, 32, 122], [], [], true⟩] :=
    WordV.blk (allocAll_new (wordObjs w.heap.size) w 29 _ rfl) [⟨1, [121, 32, 122], [], [], true⟩] [.slice none 0 0] rfl rfl (by decide) (by rw [words_size]; omega) (nil_subs [⟨1, [121, 32, 122], [], [], true⟩] (by decide))
  exact WordV.blk (allocAll_new (wordObjs w.heap.size) w 30 _ rfl) wpt12 [.slice (some ⟨w.heap.size + 29, 0, none⟩) 1 1] rfl rfl (by decide) (by rw [words_size]; omega) (fun j p u hp hu => by
    rcases j with _ | j
    · cases hp; cases hu; exact h0
    · simp [wpt12] at hp)
theorem word_mem13 (w : World) : WordV (wordsW w) (fun g => w.heap.size ≤ g ∧ g < (wordsW w).heap.size) (.slice (some ⟨w.heap.size + 34, 0, none⟩) 3 3) wpt13 := by
  exact WordV.blk (allocAll_new (wordObjs w.heap.size) w 34 _ rfl) wpt13 [.slice none 0 0, .slice none 0 0, .slice none 0 0] rfl rfl (by decide) (by rw [words_size]; omega) (nil_subs wpt13 (by decide))

theorem results_one {fn : Func} {p : Tmp} {ty : TypeId} (h : fn.results = #[.cell p ty]) (tmps : Array Value) (P : Program) (w : World) :
    (results fn tmps).run P w = ((asAddr (tmps.getD p undef)).run P w).andThen fun a w₁ => (loadVar ty a).run P w₁ := by
  simp only [results, h]
  simp [Sem.run_bind, Result.andThen]
theorem ret_five {fn : Func} {p : Tmp} (hf : fn.results = #[.cell p 25]) {tmps : Array Value} {k : Nat} {a b c d e : Value} {w : World} {t : TypeId} {fr : Nat × Nat} (h : w.heap[k]? = some (.cells #[a, b, c, d, e] t fr)) (h2 : tmps.getD p undef = .pointer (some ⟨k, 0, none⟩)) :
    (results fn tmps).run Tryd.prog w = .ok (.agg #[a, b, c, d, e]) w := by
  rw [results_one hf, h2]
  simp [asAddr, Result.andThen, load_part h]
theorem kept_drawn {D : Nat → Prop} {a w : World} (h : Kept D a w) (m : Nat) : Kept D a (w.drewN m) := ⟨h.os, h.tape, h.output, h.size, h.block⟩
/-- The law's own lit. -/
theorem plit_any (T : ByteArray) (q : Bool) (w : World) :
    Calls Tryd.prog 7 #[.string T, .bool q] w fun e w' => e = .returned (.agg #[.int .i64 1, .string T, .string ⟨#[]⟩, .slice none 0 0, .bool q]) ∧ w.alloc (.cells #[.int .i64 1, .string T, .string ⟨#[]⟩, .slice none 0 0, .bool q] 25) = w' := by
  go_enter Tryd.func7, Tryd.ntmps7
  go_wp2_with fail
  (try simp only [Exit.inBlock, Exit.then])
  refine bodyPost_ret (ret_five rfl (heap_alloc_new w _) rfl) rfl ⟨rfl, rfl⟩

end Go.Proofs.YtpifbpfmjmcchaaDoor
