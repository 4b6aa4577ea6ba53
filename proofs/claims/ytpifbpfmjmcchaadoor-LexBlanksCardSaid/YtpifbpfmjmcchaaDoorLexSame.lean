/-
  Proved: the statements' own Parts at two values that hold the same parts. Conditions: none.
-/
import Derived.Test.YtpifbpfmjmcchaaDoorLexMem
import Derived.Deep.QuietTactic
import Derived.BigQuiet
import Derived.LoopTactic
namespace Go.Proofs.YtpifbpfmjmcchaaDoor
open Go Go.RowKit GlyphMath LexMath

/-- A part in memory: the k-th of a row. -/
def PartC (w : World) (p : Option Addr) (k : Nat) (kind : Int) (T O : ByteArray) (wv : Value) (q : Bool) : Prop := ∃ b o, p = some ⟨b, o, none⟩ ∧
  w.cell? ⟨b, o + k * 5, none⟩ = some (.int .i64 kind) ∧ w.cell? ⟨b, o + k * 5 + 1, none⟩ = some (.string T) ∧ w.cell? ⟨b, o + k * 5 + 2, none⟩ = some (.string O) ∧ w.cell? ⟨b, o + k * 5 + 3, none⟩ = some wv ∧ w.cell? ⟨b, o + k * 5 + 4, none⟩ = some (.bool q)
theorem PartC.below {w w' : World} {p : Option Addr} {k : Nat} {kind : Int} {T O : ByteArray} {wv : Value} {q : Bool} (h : PartC w p k kind T O wv q) (hb : Below w.heap.size w w') : PartC w' p k kind T O wv q := by
  obtain ⟨b, o, hp, h0, h1, h2, h3, h4⟩ := h
  have lt : ∀ {a : Addr} {v : Value}, w.cell? a = some v → a.block < w.heap.size := fun h => World.block_lt_of_cell? w _ h
  exact ⟨b, o, hp, by rw [hb.cell (p := ⟨b, _, none⟩) (lt h0)]; exact h0, by rw [hb.cell (p := ⟨b, _, none⟩) (lt h1)]; exact h1, by rw [hb.cell (p := ⟨b, _, none⟩) (lt h2)]; exact h2, by rw [hb.cell (p := ⟨b, _, none⟩) (lt h3)]; exact h3, by rw [hb.cell (p := ⟨b, _, none⟩) (lt h4)]; exact h4⟩
theorem row_parts {w : World} {v : Value} {ps : List Pt} {vs : List Value} (h : w.ownsRow 0 25 5 v ps.length (rowCells ps vs)) (hl : ps.length = vs.length) :
    ∃ p c, v = .slice p ps.length c ∧ ∀ k (q : Pt) (u : Value), ps[k]? = some q → vs[k]? = some u → PartC w p k q.kind ⟨q.text.toArray⟩ ⟨q.op.toArray⟩ u q.q := by
  rcases h.2 with ⟨rfl, h0⟩ | ⟨g, cap, cur, rfl, -⟩
  · exact ⟨none, 0, by rw [h0], fun k q u hq _ => by
      have := (List.getElem?_eq_some_iff.1 hq).1
      omega⟩
  · have hc := h.cellAt
    refine ⟨some ⟨g, 0, none⟩, cap, rfl, fun k q u hq hu => ⟨g, 0, rfl, ?_⟩⟩
    have hk := (List.getElem?_eq_some_iff.1 hq).1
    have hx := fun i (hi : i < 5) => (hc (k * 5 + i) (by omega)).trans (rowCells_get ps vs k q u hq hu hl i hi)
    refine ⟨?_, ?_, ?_, ?_, ?_⟩
    · simpa [pcells, txt] using hx 0 (by omega)
    · simpa [Nat.add_assoc, pcells, txt] using hx 1 (by omega)
    · simpa [Nat.add_assoc, pcells, txt] using hx 2 (by omega)
    · simpa [Nat.add_assoc, pcells, txt] using hx 3 (by omega)
    · simpa [Nat.add_assoc, pcells, txt] using hx 4 (by omega)

set_option maxHeartbeats 4000000 in
set_option maxRecDepth 100000 in
theorem rparts_yes {w : World} {F : Nat → Prop} {va : Value} {ps : List Pt} (ha : WordV w F va ps) : ∀ {F' : Nat → Prop} {vb : Value}, WordV w F' vb ps → ∀ n,
    Calls Tryd.prog 9 #[va, vb] (w.drewN n) fun e w' => e = .returned (.bool true) ∧ ∃ m, w' = (w.drewN n).drewN m := by
  induction ha with
  | row va ps us h1 h2 h3 h4 ih =>
    intro F' vb hb n
    cases hb with
    | row _ _ vs k1 k2 k3 k4 =>
      obtain ⟨p, c, rfl, hp⟩ := row_parts h1 h2
      obtain ⟨q, d, rfl, hq⟩ := row_parts k1 k2
      have HP := Lib.hid (And.intro hp (And.intro hq (And.intro h2 k2)))
      have HI := Lib.hid ih
      have HK := Lib.hid k4
      obtain ⟨N, hN⟩ : ∃ N, ps.length = N := ⟨_, rfl⟩
      have HN := Lib.hid hN
      have hcap : N ≤ maxLen := by
        rw [← hN]
        rcases h1.2 with ⟨_, h0⟩ | ⟨_, cap, _, _, _, _, hle, hm, _⟩
        · omega
        · omega
      have hN0 : (N : Int) ≤ 2 ^ 63 - 1 := by unfold maxLen at hcap; omega
      rw [hN]
      have hbe : ((N : Int) != (N : Int)) = false := by simp
      clear h1 h2 h3 h4 ih k1 k2 k3 k4 hp hq hN hcap
      go_enter Tryd.func9, Tryd.ntmps9
      go_wp2_with fail
      go_loopw [5] (fun i wr => ∃ k m, k ≤ N ∧ i = .int .i64 (k : Int) ∧ n ≤ m ∧ wr = w.drewN m) (fun i _ => N - (intOf i).toNat)
      case atStart => exact ⟨0, n, by omega, rfl, Nat.le_refl _, rfl⟩
      case round =>
        obtain ⟨k, m, hk, rfl, hnm, rfl⟩ := hrel
        have HNM := Lib.hid hnm
        clear hnm
        by_cases hlt : k < N
        · obtain ⟨x, hx⟩ : ∃ x, ps[k]? = some x := ⟨_, List.getElem?_eq_getElem (by rw [HN.out]; exact hlt)⟩
          obtain ⟨u, hu⟩ : ∃ u, us[k]? = some u := ⟨_, List.getElem?_eq_getElem (by rw [← HP.out.2.2.1, HN.out]; exact hlt)⟩
          obtain ⟨v, hv⟩ : ∃ v, vs[k]? = some v := ⟨_, List.getElem?_eq_getElem (by rw [← HP.out.2.2.2, HN.out]; exact hlt)⟩
          have PA := HP.out.1 k x u hx hu
          have PB := HP.out.2.1 k x v hx hv
          have HC := Lib.hid (HI.out k x u hx hu (HK.out k x v hx hv))
          obtain ⟨b, o, rfl, a0, a1, a2, a3, a4⟩ := PA
          obtain ⟨b', o', rfl, d0, d1, d2, d3, d4⟩ := PB
          have hk0 : (k : Int) < (N : Int) := by omega
          have HKK := Lib.hid hlt
          obtain ⟨T, hT⟩ : ∃ T : ByteArray, ⟨x.text.toArray⟩ = T := ⟨_, rfl⟩
          obtain ⟨O, hO⟩ : ∃ O : ByteArray, ⟨x.op.toArray⟩ = O := ⟨_, rfl⟩
          obtain ⟨kd, hkd⟩ : ∃ kd, x.kind = kd := ⟨_, rfl⟩
          obtain ⟨qq, hqq⟩ : ∃ qq, x.q = qq := ⟨_, rfl⟩
          rw [hT] at a1 d1
          rw [hO] at a2 d2
          rw [hkd] at a0 d0
          rw [hqq] at a4 d4
          clear hT hO hkd hqq hlt hk
          have HCC := Lib.hid (show ∀ n, Calls Tryd.prog 9 #[u, v] ((w.drewN m).drewN n) fun e w' => e = .returned (.bool true) ∧ ∃ m', w' = ((w.drewN m).drewN n).drewN m' from fun n => by
            rw [World.drewN_drewN]
            exact HC.out (m + n))
          have a0 := (show (w.drewN m).cell? _ = _ from a0)
          have a1 := (show (w.drewN m).cell? _ = _ from a1)
          have a2 := (show (w.drewN m).cell? _ = _ from a2)
          have a3 := (show (w.drewN m).cell? _ = _ from a3)
          have a4 := (show (w.drewN m).cell? _ = _ from a4)
          have d0 := (show (w.drewN m).cell? _ = _ from d0)
          have d1 := (show (w.drewN m).cell? _ = _ from d1)
          have d2 := (show (w.drewN m).cell? _ = _ from d2)
          have d3 := (show (w.drewN m).cell? _ = _ from d3)
          have d4 := (show (w.drewN m).cell? _ = _ from d4)
          obtain ⟨wr, hwr⟩ : ∃ wr, w.drewN m = wr := ⟨_, rfl⟩
          have HWR := Lib.hid hwr
          rw [hwr] at HCC a0 a1 a2 a3 a4 d0 d1 d2 d3 d4 ⊢
          clear hwr
          go_wp2_with fail
          go_quiet ((go_at_call 9; exact Calls.quiet_of (HCC.out _)))
          go_wp2_with fail
          exact ⟨⟨k + 1, _, HKK.out, by go_num, Nat.le_trans HNM.out (Nat.le_add_right m _), by rw [← HWR.out, World.drewN_drewN]⟩, by have := HKK.out; simp [intOf]; omega⟩
        · have hk0 : ¬ (k : Int) < (N : Int) := by omega
          clear hlt hk
          go_wp2_with fail
          go_ret
          exact ⟨rfl, m - n, by first | rw [World.drewN_drewN, Nat.add_sub_cancel' HNM.out] | rw [Nat.add_sub_cancel' HNM.out]⟩
end Go.Proofs.YtpifbpfmjmcchaaDoor
