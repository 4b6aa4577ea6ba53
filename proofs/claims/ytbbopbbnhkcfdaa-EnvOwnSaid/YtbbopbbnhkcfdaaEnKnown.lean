/-
  Proved: contract of the law's known: it answers true. Conditions: none.
-/
import Derived.Test.YtbbopbbnhkcfdaaEnSet
import Derived.Test.YtbbopbbnhkcfdaaEnGetV
namespace Go.Proofs.Ytbbopbbnhkcfdaa
open Go Go.RowKit EnMath

theorem env_nil (w : World) : EnvAt w (.agg #[.slice none 0 0, .slice none 0 0, .slice none 0 0]) ⟨[], [], []⟩ := ⟨_, _, _, rfl, Rd.nil _ _ w, Rd.nil _ _ w, Rd.nil _ _ w⟩
theorem known_vars : setM (setM [] (⟨#[98]⟩ : ByteArray) (⟨#[49]⟩ : ByteArray)) ⟨#[97]⟩ ⟨#[50]⟩ = [(⟨#[97]⟩, ⟨#[50]⟩), (⟨#[98]⟩, ⟨#[49]⟩)] := by decide +kernel
theorem known_one : setM [] (⟨#[98]⟩ : ByteArray) (⟨#[49]⟩ : ByteArray) = [(⟨#[98]⟩, ⟨#[49]⟩)] := by decide +kernel
theorem known_got : getM [((⟨#[97]⟩ : ByteArray), (⟨#[50]⟩ : ByteArray)), (⟨#[98]⟩, ⟨#[49]⟩)] ⟨#[98]⟩ = some ⟨#[49]⟩ := by decide +kernel
theorem ord_nil {β : Type} : Ordd ([] : List (ByteArray × β)) := List.Pairwise.nil
theorem known_any (w : World) :
    Calls Try.prog 8 #[] w fun e w' => e = .returned (.bool true) ∧ Below w.heap.size w w' := by
  have o1 : Ordd (setM [] (⟨#[98]⟩ : ByteArray) (⟨#[49]⟩ : ByteArray)) := ord_set ord_nil
  have o2 : Ordd [((⟨#[97]⟩ : ByteArray), (⟨#[50]⟩ : ByteArray)), (⟨#[98]⟩, ⟨#[49]⟩)] := by rw [← known_vars]; exact ord_set o1
  rw [known_one] at o1
  have H1 := Lib.hid (set_any (E := ⟨[], [], []⟩) ⟨#[98]⟩ ⟨#[49]⟩ _ w (env_nil w) ⟨by decide, by decide, by decide⟩ ord_nil)
  have H2 := Lib.hid (fun (W : World) (v : Value) (h : EnvAt W v ⟨[(⟨#[98]⟩, ⟨#[49]⟩)], [], []⟩) => set_any ⟨#[97]⟩ ⟨#[50]⟩ v W h ⟨by decide, by decide, by decide⟩ o1)
  have H3 := Lib.hid (fun (W : World) (v : Value) (h : EnvAt W v ⟨[((⟨#[97]⟩ : ByteArray), (⟨#[50]⟩ : ByteArray)), (⟨#[98]⟩, ⟨#[49]⟩)], [], []⟩) => getV_any ⟨#[98]⟩ v W h ⟨by decide, by decide, by decide⟩ o2)
  dsimp only at H1 H2 H3
  rw [known_one] at H1
  have e2 : setM [((⟨#[98]⟩ : ByteArray), (⟨#[49]⟩ : ByteArray))] ⟨#[97]⟩ ⟨#[50]⟩ = [(⟨#[97]⟩, ⟨#[50]⟩), (⟨#[98]⟩, ⟨#[49]⟩)] := by decide +kernel
  simp only [e2] at H2
  simp only [known_got, Option.getD_some, Option.isSome_some] at H3
  clear o1 o2 e2
  go_enter Try.func8, Try.ntmps8
  go_upto_region 2 with (first
    | (go_at_call 9; (refine H1.out.mono ?_); rintro e w1 ⟨v1, rfl, he1, hb1⟩; have E1 := Lib.hid he1; have B1 := Lib.hid hb1; clear he1 hb1 H1)
    | (go_at_call 9; (refine (H2.out w1 v1 E1.out).mono ?_); rintro e w2 ⟨v2, rfl, he2, hb2⟩; obtain ⟨p1, c1, p2, c2, p3, c3, rfl, r1, r2, r3⟩ := he2.shape; have R1 := Lib.hid r1; have E2 := Lib.hid he2; have B2 := Lib.hid (en_trans B1.out hb2); clear he2 hb2 r1 r2 r3))
  obtain ⟨b, o, rfl, hcc⟩ := R1.out.get (k := 0) rfl
  have d0 := hcc 0 _ rfl 0 _ rfl
  simp only [Nat.zero_mul, Nat.add_zero] at d0
  simp only [List.length_cons, List.length_nil, Nat.zero_add, Nat.reduceAdd] at E2
  obtain ⟨W3, hW3⟩ : ∃ W, w2.alloc (.cells #[.slice (some ⟨b, o, none⟩) 2 c1, .slice p2 0 c2, .slice p3 0 c3] 26) = W := ⟨_, rfl⟩
  have hb3 : Below w2.heap.size w2 W3 := by rw [← hW3]; exact en_alloc (Below.refl _ w2) _
  have hX : W3.heap[w2.heap.size]? = some (.cells #[.slice (some ⟨b, o, none⟩) 2 c1, .slice p2 0 c2, .slice p3 0 c3] 26 (0, 0)) := by rw [← hW3]; exact heap_alloc_new w2 _
  have hXl : w2.heap.size < W3.heap.size := (Array.getElem?_eq_some_iff.1 hX).1
  have k0 := cell_of_row W3 _ 0 _ _ _ hX
  have k1 := cell_of_row W3 _ 1 _ _ _ hX
  have k2 := cell_of_row W3 _ 2 _ _ _ hX
  have HG := Lib.hid (H3.out W3 _ (E2.out.below hb3 (Nat.le_refl _)))
  have HD := Lib.hid (fun (W : World) (hW : Below W3.heap.size W3 W) => (show W.cell? ⟨w2.heap.size, 0, none⟩ = some (.slice (some ⟨b, o, none⟩) 2 c1) ∧ W.cell? ⟨b, o, none⟩ = some (.string ⟨#[97]⟩) from
    ⟨(hW.cell (p := ⟨w2.heap.size, 0, none⟩) hXl).trans k0, (hW.cell (p := ⟨b, o, none⟩) (Nat.lt_of_lt_of_le (World.block_lt_of_cell? w2 _ d0) hb3.size)).trans ((World.cell?_of_block (hb3.block b (World.block_lt_of_cell? w2 _ d0))).trans d0)⟩))
  have HB3 := Lib.hid (en_trans B2.out hb3)
  clear hcc d0 hb3 hX hXl
  rw [hW3]
  clear hW3
  go_wp2_with (go_at_call 15; (refine HG.out.mono ?_); rintro e w4 ⟨rfl, hb4⟩; obtain ⟨k0, d0⟩ := HD.out w4 hb4; have HB4 := Lib.hid (en_trans HB3.out hb4); clear hb4)
  go_ret
  exact ⟨rfl, HB4.out⟩
end Go.Proofs.Ytbbopbbnhkcfdaa
