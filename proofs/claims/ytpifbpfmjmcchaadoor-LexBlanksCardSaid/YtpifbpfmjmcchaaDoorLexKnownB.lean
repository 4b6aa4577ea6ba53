/-
  Proved: the statements' own known text. Conditions: the program's signs lie as they should.
-/
import Derived.Test.YtpifbpfmjmcchaaDoorLexKnown
namespace Go.Proofs.YtpifbpfmjmcchaaDoor
open Go Go.RowKit GlyphMath LexMath

set_option maxHeartbeats 4000000 in
set_option maxRecDepth 100000 in
theorem known_any (w : World) (hS : Signs w) :
    Calls Tryd.prog 10 #[] w fun e w' => e = .returned (.bool true) ∧ Below w.heap.size w w' := by
  have HT := Lib.hid (show _ from by have := tokens_in ⟨#[97, 34, 36, 98, 34]⟩ w (by decide) known_text hS; rw [show (⟨#[97, 34, 36, 98, 34]⟩ : ByteArray).size = 5 from rfl, known_model] at this; exact this)
  clear hS
  go_enter Tryd.func10, Tryd.ntmps10
  go_wp2_with fail
  refine HT.out.mono ?_
  rintro e w1 ⟨v, X, us, F, rfl, hO, hb⟩
  obtain ⟨p, c, rfl, hat⟩ := hO.at
  obtain ⟨u0, -, hw0, hc0⟩ := hat 0 _ rfl
  obtain ⟨u1, -, -, hc1⟩ := hat 1 _ rfl
  have HB := Lib.hid hb
  have HF := Lib.hid hO.far
  have hlit := WordV.lit (w := w1) (F := fun g => g = w1.heap.size) (ps := [⟨1, [97], [], [], false⟩, ⟨2, [98], [], [], true⟩]) (vs := [.slice none 0 0, .slice none 0 0]) rfl (by decide) rfl (fun j p u hp hu => by
    rcases j with _ | _ | j
    · cases hp; cases hu; exact WordV.nil _ _
    · cases hp; cases hu; exact WordV.nil _ _
    · simp at hp)
  have hb2 : Below w1.heap.size w1 (w1.alloc (.cells (rowCells [⟨1, [97], [], [], false⟩, ⟨2, [98], [], [], true⟩] [.slice none 0 0, .slice none 0 0]).toArray 25)) := (Below.refl _ _).alloc (Nat.le_refl _) _
  have hc0' := hc0.below hb2
  have hc1' := hc1.below hb2
  have hw0' := hw0.same (w' := w1.alloc (.cells (rowCells [⟨1, [97], [], [], false⟩, ⟨2, [98], [], [], true⟩] [.slice none 0 0, .slice none 0 0]).toArray 25)) (fun g hg => Below.heap_alloc _ _ _ (hO.far g hg).2.1)
  have HP := Lib.hid (show _ from by have h := rparts_yes hw0' hlit 0; rw [show ((w1.alloc (.cells (rowCells [⟨1, [97], [], [], false⟩, ⟨2, [98], [], [], true⟩] [.slice none 0 0, .slice none 0 0]).toArray 25))).drewN 0 = (w1.alloc (.cells (rowCells [⟨1, [97], [], [], false⟩, ⟨2, [98], [], [], true⟩] [.slice none 0 0, .slice none 0 0]).toArray 25)) from rfl] at h; exact h)
  obtain ⟨b, o, rfl, a0, a1, a2, a3⟩ := hc0'
  obtain ⟨b', o', hbe, d0, d1, d2, d3⟩ := hc1'
  cases hbe
  simp only [Nat.zero_mul, Nat.one_mul, Nat.add_zero] at a0 a1 a2 a3 d0 d1 d2 d3
  simp only [rowCells, pcells, txt, List.cons_append, List.nil_append] at a0 a1 a2 a3 d0 d1 d2 d3 HP
  clear hO hb hat hc0 hc1 hw0 hlit hb2 hw0'
  go_wp2_with fail
  refine HP.out.mono ?_
  rintro e w3 ⟨rfl, m, rfl⟩
  go_wp2_with fail
  go_ret
  exact ⟨rfl, (HB.out.alloc HB.out.size _).trans ⟨rfl, rfl, rfl, Nat.le_refl _, fun _ _ => rfl⟩⟩
end Go.Proofs.YtpifbpfmjmcchaaDoor
