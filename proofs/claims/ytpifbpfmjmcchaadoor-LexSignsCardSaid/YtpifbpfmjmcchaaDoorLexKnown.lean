/-
  Proved: the statements' own known text. Conditions: the program's signs lie as they should.
-/
import Derived.Test.YtpifbpfmjmcchaaDoorLexTokens
import Derived.Test.YtpifbpfmjmcchaaDoorLexSame
namespace Go.Proofs.YtpifbpfmjmcchaaDoor
open Go Go.RowKit GlyphMath LexMath

theorem known_model : tokensL 5 ((letters ⟨#[97, 34, 36, 98, 34]⟩).length + 1) (letters ⟨#[97, 34, 36, 98, 34]⟩) [] = .ok [⟨1, [], [⟨1, [97], [], [], false⟩, ⟨2, [98], [], [], true⟩], 0⟩, ⟨3, [], [], 5⟩] := by kernel_rfl
theorem known_text : isText ⟨#[97, 34, 36, 98, 34]⟩ = true := by kernel_rfl

/-- A token in memory: the k-th of a row. -/
def TokC (w : World) (p : Option Addr) (k : Nat) (kind : Int) (T : ByteArray) (wv : Value) (a : Nat) : Prop := ∃ b o, p = some ⟨b, o, none⟩ ∧
  w.cell? ⟨b, o + k * 4, none⟩ = some (.int .i64 kind) ∧ w.cell? ⟨b, o + k * 4 + 1, none⟩ = some (.string T) ∧ w.cell? ⟨b, o + k * 4 + 2, none⟩ = some wv ∧ w.cell? ⟨b, o + k * 4 + 3, none⟩ = some (.int .i64 (a : Int))
theorem TokC.below {w w' : World} {p : Option Addr} {k : Nat} {kind : Int} {T : ByteArray} {wv : Value} {a : Nat} (h : TokC w p k kind T wv a) (hb : Below w.heap.size w w') : TokC w' p k kind T wv a := by
  obtain ⟨b, o, hp, h0, h1, h2, h3⟩ := h
  have lt : ∀ {a : Addr} {v : Value}, w.cell? a = some v → a.block < w.heap.size := fun h => World.block_lt_of_cell? w _ h
  exact ⟨b, o, hp, by rw [hb.cell (p := ⟨b, _, none⟩) (lt h0)]; exact h0, by rw [hb.cell (p := ⟨b, _, none⟩) (lt h1)]; exact h1, by rw [hb.cell (p := ⟨b, _, none⟩) (lt h2)]; exact h2, by rw [hb.cell (p := ⟨b, _, none⟩) (lt h3)]; exact h3⟩
theorem TokO.at {w : World} {B X : Nat} {v : Value} {us : List Value} {F : Nat → Prop} {ts : List Tk} (h : TokO w B X v us F ts) :
    ∃ p c, v = .slice p ts.length c ∧ ∀ k (t : Tk), ts[k]? = some t → ∃ u, us[k]? = some u ∧ WordV w F u t.word ∧ TokC w p k t.kind ⟨t.text.toArray⟩ u t.at_ := by
  have hl := h.len
  have hs := h.sub
  rcases h.own.2 with ⟨rfl, h0⟩ | ⟨g, cap, cur, rfl, -⟩
  · exact ⟨none, 0, by rw [h0], fun k q hq => by
      have := (List.getElem?_eq_some_iff.1 hq).1
      omega⟩
  · have hc := h.own.cellAt
    refine ⟨some ⟨g, 0, none⟩, cap, rfl, fun k t ht => ?_⟩
    have hk := (List.getElem?_eq_some_iff.1 ht).1
    obtain ⟨u, hu⟩ : ∃ u, us[k]? = some u := ⟨_, List.getElem?_eq_getElem (by rw [← hl]; exact hk)⟩
    refine ⟨u, hu, hs k t u ht hu, g, 0, rfl, ?_⟩
    have hx := fun i (hi : i < 4) => (hc (k * 4 + i) (by omega)).trans (tokCells_get ts us k t u ht hu hl i hi)
    refine ⟨?_, ?_, ?_, ?_⟩
    · simpa [tcells, txt] using hx 0 (by omega)
    · simpa [Nat.add_assoc, tcells, txt] using hx 1 (by omega)
    · simpa [Nat.add_assoc, tcells, txt] using hx 2 (by omega)
    · simpa [Nat.add_assoc, tcells, txt] using hx 3 (by omega)
/-- A literal row of parts. -/
theorem WordV.lit {w : World} {F : Nat → Prop} {ps : List Pt} {vs : List Value} (hl : ps.length = vs.length) (hm : ps.length ≤ maxLen) (hF : F w.heap.size)
    (hs : ∀ (j : Nat) (p : Pt) (u : Value), ps[j]? = some p → vs[j]? = some u → WordV (w.alloc (.cells (rowCells ps vs).toArray 25)) F u p.word) :
    WordV (w.alloc (.cells (rowCells ps vs).toArray 25)) F (.slice (some ⟨w.heap.size, 0, none⟩) ps.length ps.length) ps := by
  refine .row _ _ vs ?_ hl (fun g hg => ?_) hs
  · have h := World.ownsRow_lit (base := 0) (e := 25) (size := 5) w (rowCells ps vs).toArray ps.length (Nat.zero_le _) hm (by simpa using rowCells_length ps vs hl)
    simpa using h
  · cases hg; exact hF
end Go.Proofs.YtpifbpfmjmcchaaDoor
