/-
  Proved: contract of Fields. Conditions: at most 1000 runs, each of at most 1000 bytes.
-/
import Derived.Test.YtfepkhlifpbkfaaDoorSpAdd
namespace Go.Proofs.YtfepkhlifpbkfaaDoor
open Go Go.RowKit GlyphMath GlMath SpMath

theorem fd_new (w : World) : StF (w.alloc (.cells #[.slice none 0 0, .slice none 0 0, .bool false] 43)) w.heap.size w.heap.size fd0 :=
  ⟨_, _, [], heap_alloc_new w _, Nat.le_refl _, ⟨World.ownsRow_nil _ _ _ _, rfl, fun k u l hu _ => by cases hu⟩, World.ownsRow_nil _ _ _ _, fun k u hu => by cases hu⟩
theorem StF.kept {w w' : World} {B X : Nat} {f : Fld} (h : StF w B X f) (hk : Cs w w') : StF w' B X f := by
  obtain ⟨a, b, c, h⟩ := h
  exact ⟨a, b, c, h.kept hk⟩
theorem fieldsF_take (l : List Rn) (k : Nat) (x : Rn) (h : l[k]? = some x) : fieldsF (l.take (k + 1)) = (fieldsF (l.take k)).add x := by
  unfold fieldsF
  rw [List.take_add_one, h, List.foldl_append]
  rfl
theorem fieldsF_sz (l : List Rn) (k : Nat) (hs : ∀ x ∈ l, x.text.size ≤ 1000) : (fieldsF (l.take k)).sz ≤ k * 1001 := by
  have h1 := adds_sz 1000 (l.take k) fd0 (fun x hx => hs x (List.mem_of_mem_take hx))
  have h2 : (l.take k).length ≤ k := by rw [List.length_take]; omega
  have h3 : fd0.sz = 0 := rfl
  have h4 : (l.take k).length * (1000 + 1) ≤ k * 1001 := Nat.mul_le_mul_right _ h2
  unfold fieldsF
  omega
set_option maxRecDepth 8000 in
set_option maxHeartbeats 1000000 in
theorem fields_any (l : List Rn) (v : Value) (w : World) (h : Rd 4 rnC w v l) (hl : l.length ≤ 1000) (hs : ∀ x ∈ l, x.text.size ≤ 1000) :
    Calls Tryd.prog 6 #[v] w fun e w' => ∃ u, e = .returned u ∧ Rds w' u (fieldsM l) ∧ Below w.heap.size w w' := by
  obtain ⟨p, c, rfl⟩ := h.shape
  have HA := Lib.hid h
  obtain ⟨N, hN⟩ : ∃ N, l.length = N := ⟨_, rfl⟩
  have HN := Lib.hid hN
  have HS := Lib.hid hs
  rw [hN] at hl HA
  rw [hN]
  obtain ⟨W1, hW1⟩ : ∃ W1, w.alloc (.cells #[.slice none 0 0, .slice none 0 0, .bool false] 43) = W1 := ⟨_, rfl⟩
  have H1 := Lib.hid (show StF W1 w.heap.size w.heap.size fd0 ∧ Below w.heap.size w W1 from by rw [← hW1]; exact ⟨fd_new w, (Below.refl _ w).alloc (Nat.le_refl _) _⟩)
  clear h hN hs
  go_enter Tryd.func6, Tryd.ntmps6
  go_wp2_with (rw [hW1]; clear hW1)
  go_loopw [8] (fun i wr => ∃ k : Nat, i = .int .i64 (k : Int) ∧ k ≤ N ∧ StF wr w.heap.size w.heap.size (fieldsF (l.take k)) ∧ Below w.heap.size w wr) (fun i _ => N - (intOf i).toNat)
  case atStart => exact ⟨0, rfl, Nat.zero_le _, H1.out.1, H1.out.2⟩
  case round =>
    obtain ⟨k, rfl, hk, hst, hb⟩ := hrel
    have HB := Lib.hid hb
    by_cases hlt : k < N
    · obtain ⟨x, hx⟩ : ∃ x, l[k]? = some x := ⟨_, List.getElem?_eq_getElem (by rw [HN.out]; exact hlt)⟩
      obtain ⟨b, o, hq, c0⟩ := (HA.out.below hb (Nat.le_refl _)).get hx
      subst hq
      have hxs := HS.out x (List.mem_of_getElem? hx)
      have HXT := Lib.hid (fieldsF_take l k x hx)
      have hsz := fieldsF_sz l k HS.out
      obtain ⟨xt, xq, xs, xb⟩ := x
      have d0 := c0 k _ hx 0 _ rfl
      have d1 := c0 k _ hx 1 _ rfl
      have d2 := c0 k _ hx 2 _ rfl
      have d3 := c0 k _ hx 3 _ rfl
      rw [Nat.add_zero] at d0
      simp only at d0 d1 d2 d3 hxs
      obtain ⟨F, hF⟩ : ∃ F, fieldsF (l.take k) = F := ⟨_, rfl⟩
      rw [hF] at hst hsz HXT
      have HC := Lib.hid (add_any w.heap.size w.heap.size (wr.alloc (.cells #[.string xt, .bool xq, .bool xs, .bool xb] 24)) F xt xq xs xb (hst.kept (alloc_cells _)) (by have := hb.size; simp; omega) (by omega))
      have HBA := Lib.hid (hb.alloc hb.size (.cells #[.string xt, .bool xq, .bool xs, .bool xb] 24))
      have HLT := Lib.hid hlt
      have hltI : (k : Int) < (N : Int) := by omega
      have hk1 : (k : Int) + 1 ≤ 9223372036854775807 := by omega
      clear hb hlt hk hx c0 hxs hsz hst hF
      go_wp2_with (go_at_call 16; refine HC.out.mono ?_; rintro e w2 ⟨rfl, hs2, hb2, -⟩; have H2 := Lib.hid (And.intro hs2 hb2); clear hs2 hb2)
      go_roundw
      case rel => exact ⟨k + 1, by simp, HLT.out, by rw [HXT.out]; exact H2.out.1, HBA.out.trans H2.out.2⟩
      case measure => have := HLT.out; simp [intOf]; omega
    · have hltI : ¬ (k : Int) < (N : Int) := by omega
      have hsz := fieldsF_sz l k HS.out
      have HE := Lib.hid (show fieldsF (l.take k) = fieldsF l by rw [List.take_of_length_le (by rw [HN.out]; omega)])
      have HC := Lib.hid (end_any w.heap.size w.heap.size wr (fieldsF (l.take k)) hst hb.size (by unfold Fld.sz at hsz; omega))
      rw [HE.out] at HC
      clear hb hlt hk hst hsz
      go_wp2_with (go_at_call 17; refine HC.out.mono ?_; rintro e w2 ⟨rfl, ⟨ve, vl, vs, hs2⟩, hb2, -⟩; obtain ⟨e0, e1, e2, -⟩ := fd_cell hs2.blk; have H2 := Lib.hid (And.intro hs2 hb2); clear hs2 hb2)
      go_ret
      exact ⟨_, rfl, H2.out.1.fs.rds, HB.out.trans H2.out.2⟩
end Go.Proofs.YtfepkhlifpbkfaaDoor
