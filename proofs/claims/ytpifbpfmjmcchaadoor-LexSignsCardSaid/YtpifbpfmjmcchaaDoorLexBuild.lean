/-
  Proved: contracts of strings.Builder's copyCheck, WriteRune and String at a builder that a call has made. Conditions: as each says.
-/
import Derived.Test.YtpifbpfmjmcchaaDoorLexRead
import Derived.Test.YtpifbpfmjmcchaaDoorShelf
import Derived.Shelf.Strings.BuilderRune
namespace Go.Proofs.YtpifbpfmjmcchaaDoor
open Go Go.RowKit GlyphMath LexMath

set_option maxRecDepth 100000 in
theorem copyCheck_fresh (b : Nat) (w : World) (h0 : w.cell? ⟨b, 0, none⟩ = some (.pointer none)) (hsh : w.shape? b = some (81, 2)) (hfz : w.frozen? ⟨b, 0, none⟩ = false) :
    Calls Tryd.prog 51 #[.pointer (some ⟨b, 0, none⟩)] w fun e w' => e = .returned (.tuple #[]) ∧ w' = w.setCell ⟨b, 0, none⟩ (.pointer (some ⟨b, 0, none⟩)) := by
  obtain ⟨j, hj, hjs⟩ := Option.map_eq_some_iff.1 (show (Tryd.prog.info? 81).map (·.size) = some 2 by kernel_rfl)
  go_enter Tryd.func51, Tryd.ntmps51
  go_wp2_with fail
  rw [Lib.run_to_unsafe w ⟨b, 0, none⟩ Tryd.underlying78 Tryd.underlying105 hj (by rw [hjs]; decide) hsh (Nat.zero_lt_succ 1)]
  simp only [Result.andThen]
  rw [Oper.upon_value]
  go_wp2_with fail
  rw [run_callFunc_extern Tryd.func65 (by kernel_rfl) (by kernel_rfl) (by kernel_rfl) (e := Extern.AbiNoEscape.same) (by kernel_rfl)]
  rw [Lib.run_noEscape]
  simp only [Result.andThen]
  rw [Oper.upon_value]
  go_wp2_with fail
  rw [Lib.run_from_unsafe w ⟨b, 0, none⟩ Tryd.underlying105 Tryd.underlying78 hj hsh (by kernel_rfl)]
  simp only [Result.andThen]
  rw [Oper.upon_value]
  go_wp2_with fail
  go_end0
  exact ⟨rfl, rfl⟩

set_option maxRecDepth 100000 in
theorem copyCheck_used (b : Nat) (w : World) (h0 : w.cell? ⟨b, 0, none⟩ = some (.pointer (some ⟨b, 0, none⟩))) :
    Calls Tryd.prog 51 #[.pointer (some ⟨b, 0, none⟩)] w fun e w' => e = .returned (.tuple #[]) ∧ w' = w := by
  obtain ⟨j, hj, _⟩ := Option.map_eq_some_iff.1 (show (Tryd.prog.info? 81).map (·.size) = some 2 by kernel_rfl)
  go_enter Tryd.func51, Tryd.ntmps51
  go_wp2_with fail
  rw [Lib.run_neq_ptr_same w _ Tryd.underlying78 hj]
  go_wp2_with fail
  go_end0
  exact ⟨rfl, rfl⟩

/-- A builder that the call has made, at B and above; it holds these bytes. -/
def Bld (w : World) (B b : Nat) (l : List UInt8) : Prop := Lib.IsBuilderF 81 5 B b (Lib.byteCells l) w

theorem copyCheck_any (B b : Nat) (l : List UInt8) (w : World) (h : Bld w B b l) :
    Calls Tryd.prog 51 #[.pointer (some ⟨b, 0, none⟩)] w fun e w' => e = .returned (.tuple #[]) ∧ Lib.BuilderAtF 81 5 B b (.pointer (some ⟨b, 0, none⟩)) (Lib.byteCells l) w' ∧ Below B w w' := by
  rcases h with h | h
  · refine (copyCheck_fresh b w h.cell0 h.shape h.frozen0).mono ?_
    rintro e w' ⟨rfl, rfl⟩
    exact ⟨rfl, h.used _, (Below.refl B w).setCell (p := ⟨b, 0, none⟩) h.1 _⟩
  · refine (copyCheck_used b w h.cell0).mono ?_
    rintro e w' ⟨rfl, rfl⟩
    exact ⟨rfl, h, Below.refl B _⟩

theorem eb_good {r : Nat} (h : GoodL r) : Lib.encodeRune (r : Int) = eb r := by
  obtain ⟨h0, h1, h2⟩ := h
  unfold Lib.encodeRune eb
  by_cases k1 : r < 128
  · rw [Lib.encodeRuneZ_one (by omega) (by omega), if_pos k1]; simp [UInt8.ofNat, Int.toNat]
  · rw [if_neg k1]
    by_cases k2 : r < 2048
    · rw [Lib.encodeRuneZ_two (by omega) (by omega), if_pos k2]
      have e1 : (192 + (r : Int) / 64).toNat = 192 + r / 64 := by omega
      have e2 : (128 + (r : Int) % 64).toNat = 128 + r % 64 := by omega
      simp [e1, e2]
    · rw [if_neg k2]
      by_cases k3 : r < 65536
      · rw [Lib.encodeRuneZ_three (by omega), if_pos k3]
        have e1 : (224 + (r : Int) / 4096).toNat = 224 + r / 4096 := by omega
        have e2 : (128 + (r : Int) / 64 % 64).toNat = 128 + r / 64 % 64 := by omega
        have e3 : (128 + (r : Int) % 64).toNat = 128 + r % 64 := by omega
        simp [e1, e2, e3]
      · rw [Lib.encodeRuneZ_four (by omega) (by omega), if_neg k3]
        have e1 : (240 + (r : Int) / 262144).toNat = 240 + r / 262144 := by omega
        have e2 : (128 + (r : Int) / 4096 % 64).toNat = 128 + r / 4096 % 64 := by omega
        have e3 : (128 + (r : Int) / 64 % 64).toNat = 128 + r / 64 % 64 := by omega
        have e4 : (128 + (r : Int) % 64).toNat = 128 + r % 64 := by omega
        simp [e1, e2, e3, e4]

set_option maxHeartbeats 1000000 in
set_option maxRecDepth 100000 in
theorem writeRune_any (B b : Nat) (l : List UInt8) (r : Nat) (hr : GoodL r) (w : World) (h : Bld w B b l) (hl : l.length ≤ 100000) (hB : B ≤ w.heap.size) :
    Calls Tryd.prog 39 #[.pointer (some ⟨b, 0, none⟩), .int .i32 (r : Int)] w fun e w' => (∃ n, e = .returned (.tuple #[.int .i64 n, .nilIface])) ∧ Bld w' B b (l ++ eb r) ∧ Below B w w' := by
  have HC := Lib.hid (copyCheck_any B b l w h)
  have HE := Lib.hid (eb_good hr)
  have hr1 := hr.2.1
  have HL := Lib.hid hl
  have HBW := Lib.hid hB
  clear h hr hl hB
  go_enter Tryd.func39, Tryd.ntmps39
  go_wp2_with fail
  refine HC.out.mono ?_
  rintro e w1 ⟨rfl, h1, hb1⟩
  obtain ⟨hbB, v, hbk, hown, hne⟩ := h1
  obtain ⟨ao, cap, rfl⟩ : ∃ ao cap, v = .slice ao (Lib.byteCells l).length cap := by
    rcases hown.2 with ⟨hv, h0⟩ | ⟨g, cap, cur, fz, hv, _⟩
    · exact ⟨none, 0, by rw [hv, h0]⟩
    · exact ⟨_, _, hv⟩
  obtain ⟨N, hN⟩ : ∃ N, (Lib.byteCells l).length = N := ⟨_, rfl⟩
  have hNl : N ≤ 100000 := by rw [← hN, Lib.byteCells_length]; exact HL.out
  rw [hN] at hown hne hbk
  have c0 : w1.cell? ⟨b, 0, none⟩ = some (.pointer (some ⟨b, 0, none⟩)) := by rw [Lib.cell_of_heap hbk]; rfl
  have c1 : w1.cell? ⟨b, 1, none⟩ = some (.slice ao N cap) := by rw [Lib.cell_of_heap hbk]; rfl
  have HO := Lib.hid hown
  have HNE := Lib.hid hne
  have HK := Lib.hid hbk
  have HB1 := Lib.hid hb1
  have HNN := Lib.hid hN
  have HNL := Lib.hid hNl
  clear hown hne hbk hb1 hN hNl
  go_wp2_with fail
  refine (Tryd.utf8_AppendRune_row B _ N (Lib.byteCells l) (r : Int) (by omega) (by omega) _ HO.out (by have := HNL.out; omega) (by have := HB1.out.size; have := HBW.out; omega)).mono ?_
  rintro e w2 ⟨v', rfl, hown', o, hgrow⟩
  have hk4 := Lib.runeCells_le (r : Int)
  have hlt : b < w1.heap.size := (Array.getElem?_eq_some_iff.1 HK.out).1
  have hb2 : w2.heap[b]? = some (.cells #[.pointer (some ⟨b, 0, none⟩), .slice ao N cap] 81 (0, 0)) := by
    rw [hgrow.block b (by simp; omega) (fun e => HNE.out e.symm), Lib.alloc_old w1 _ b hlt]
    exact HK.out
  have d0 : w2.cell? ⟨b, 0, none⟩ = some (.pointer (some ⟨b, 0, none⟩)) := by rw [Lib.cell_of_heap hb2]; rfl
  have d1 : w2.cell? ⟨b, 1, none⟩ = some (.slice ao N cap) := by rw [Lib.cell_of_heap hb2]; rfl
  have f1 : w2.frozen? ⟨b, 1, none⟩ = false := Lib.frozen_of_heap hb2 1
  obtain ⟨g, cap', rfl⟩ : ∃ g cap', v' = .slice (some ⟨g, 0, none⟩) (N + (Lib.runeCells (r : Int)).length) cap' := by
    rcases hown'.2 with ⟨_, h0⟩ | ⟨g, cap', cur, fz, hv, _⟩
    · omega
    · exact ⟨g, cap', hv⟩
  have hbelow := ((Below.refl B w1).alloc (by have := HB1.out.size; have := HBW.out; omega) o).grown hgrow (by have := HB1.out.size; have := HBW.out; simp; omega) (fun k hk => (HO.out.lt k hk).1)
  have HH := Lib.hid (And.intro hown' (And.intro hb2 hbelow))
  clear hown' hgrow hb2 hlt hk4 hbelow
  go_wp2_with fail
  go_ret2
  obtain ⟨k1, k2, k3⟩ := HH.out
  refine ⟨⟨_, rfl⟩, .inr ?_, HB1.out.trans (k3.setCell (p := ⟨b, 1, none⟩) hbB _)⟩
  have e1 : Lib.byteCells (l ++ eb r) = Lib.byteCells l ++ Lib.runeCells (r : Int) := by rw [Lib.byteCells_append, ← HE.out, Lib.byteCells_encodeRune]
  rw [e1]
  have e2 : N + (Lib.runeCells (r : Int)).length = (Lib.byteCells l ++ Lib.runeCells (r : Int)).length := by rw [List.length_append, HNN.out]
  exact Lib.BuilderAtF.put (T := 81) (e := 5) hbB k2 (bs' := Lib.byteCells l ++ Lib.runeCells (r : Int)) (by rw [← e2]; exact k1) (by decide)

theorem string_any (B b : Nat) (l : List UInt8) (w : World) (h : Bld w B b l) (hB : B ≤ w.heap.size) :
    Calls Tryd.prog 41 #[.pointer (some ⟨b, 0, none⟩)] w fun e w' => e = .returned (txt l) ∧ Below B w w' :=
  (Tryd.Builder_String_any_k B b l w h hB).mono fun _ _ ⟨h1, _, h2, _⟩ => ⟨h1, h2⟩
theorem Bld.new (w : World) : Bld (w.alloc (.cells #[.pointer none, .slice none 0 0] 81)) w.heap.size w.heap.size [] := Lib.IsBuilderF.of (Lib.fresh_isBuilder _ _ w)
/-- It stays where nothing at B and above is turned. -/
theorem Bld.kept {D : Nat → Prop} {w w' : World} {B b : Nat} {l : List UInt8} (h : Bld w B b l) (hk : Kept D w w') (hD : ∀ k, B ≤ k → ¬ D k) : Bld w' B b l := by
  have one : ∀ p, Lib.BuilderAtF 81 5 B b p (Lib.byteCells l) w → Lib.BuilderAtF 81 5 B b p (Lib.byteCells l) w' := by
    rintro p ⟨hB, v, hb, hown, hne⟩
    refine ⟨hB, v, hk.heap hb (hD b hB), ⟨hown.1, ?_⟩, hne⟩
    rcases hown.2 with hn | ⟨g, cap, cur, fz, hv, hbg, hg, r⟩
    · exact .inl hn
    · exact .inr ⟨g, cap, cur, fz, hv, hbg, hk.heap hg (hD g hbg), r⟩
  exact h.elim (fun h => .inl (one _ h)) fun h => .inr (one _ h)
end Go.Proofs.YtpifbpfmjmcchaaDoor
