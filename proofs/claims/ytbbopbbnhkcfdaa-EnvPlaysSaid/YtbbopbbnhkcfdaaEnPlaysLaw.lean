/-
  Proved: the law EnvPlays answers true and changes nothing that was there, whatever the Env and the script. Conditions: the arguments lie in memory as the row says.
-/
import Derived.Test.YtbbopbbnhkcfdaaEnPlays
namespace Go.Proofs.Ytbbopbbnhkcfdaa
open Go Go.RowKit EnMath

set_option maxRecDepth 10000 in
theorem plays_many (p1 p2 p3 pl : Option Addr) (n1 n2 n3 nl c1 c2 c3 cl : Nat) (w : World) (hn : 60 < nl ∨ (nl ≤ 60 ∧ 30 < n1) ∨ (nl ≤ 60 ∧ n1 ≤ 30 ∧ 30 < n3)) :
    Calls Try.prog 3 #[.agg #[.slice p1 n1 c1, .slice p2 n2 c2, .slice p3 n3 c3], .slice pl nl cl] w fun e w' => e = .returned (.bool true) ∧ Below w.heap.size w w' := by
  have HB := Lib.hid (en_alloc (Below.refl _ w) (.cells #[.slice p1 n1 c1, .slice p2 n2 c2, .slice p3 n3 c3] 26))
  rcases hn with hn | ⟨hl, hn⟩ | ⟨hl, hv, hn⟩
  · have g1 : (60 : Int) < (nl : Int) := by omega
    clear hn
    go_enter Try.func3, Try.ntmps3
    go_wp2_with fail
    go_ret
    exact ⟨rfl, HB.out⟩
  · have g1 : (nl : Int) ≤ 60 := by omega
    have g2 : (30 : Int) < (n1 : Int) := by omega
    clear hn hl
    go_enter Try.func3, Try.ntmps3
    go_wp2_with fail
    go_ret
    exact ⟨rfl, HB.out⟩
  · have g1 : (nl : Int) ≤ 60 := by omega
    have g2 : (n1 : Int) ≤ 30 := by omega
    have g3 : (30 : Int) < (n3 : Int) := by omega
    clear hn hl hv
    go_enter Try.func3, Try.ntmps3
    go_wp2_with fail
    go_ret
    exact ⟨rfl, HB.out⟩

set_option maxRecDepth 10000 in
theorem plays_odd {E : Ev} (p1 p2 p3 pl : Option Addr) (c1 c2 c3 nl cl : Nat) (w : World) (h : EnvAt w (.agg #[.slice p1 E.vars.length c1, .slice p2 E.args.length c2, .slice p3 E.funs.length c3]) E) (hn : nl ≤ 60) (hv : E.vars.length ≤ 30) (hf : E.funs.length ≤ 30) (ho : (isO E.vars && isO E.funs) = false) :
    Calls Try.prog 3 #[.agg #[.slice p1 E.vars.length c1, .slice p2 E.args.length c2, .slice p3 E.funs.length c3], .slice pl nl cl] w fun e w' => e = .returned (.bool true) ∧ Below w.heap.size w w' := by
  obtain ⟨W2, hW2⟩ : ∃ W, w.alloc (.cells #[.slice p1 E.vars.length c1, .slice p2 E.args.length c2, .slice p3 E.funs.length c3] 26) = W := ⟨_, rfl⟩
  have hb : Below w.heap.size w W2 := by rw [← hW2]; exact en_alloc (Below.refl _ w) _
  have hX : W2.heap[w.heap.size]? = some (.cells #[.slice p1 E.vars.length c1, .slice p2 E.args.length c2, .slice p3 E.funs.length c3] 26 (0, 0)) := by rw [← hW2]; exact heap_alloc_new w _
  have hXl : w.heap.size < W2.heap.size := (Array.getElem?_eq_some_iff.1 hX).1
  have HK := Lib.hid (fun (W : World) (hW : Below W2.heap.size W2 W) => (show W.cell? ⟨w.heap.size, 0, none⟩ = some (.slice p1 E.vars.length c1) ∧ W.cell? ⟨w.heap.size, 1, none⟩ = some (.slice p2 E.args.length c2) ∧ W.cell? ⟨w.heap.size, 2, none⟩ = some (.slice p3 E.funs.length c3) from
    ⟨cell_of_row W _ 0 _ _ _ ((hW.block _ hXl).trans hX), cell_of_row W _ 1 _ _ _ ((hW.block _ hXl).trans hX), cell_of_row W _ 2 _ _ _ ((hW.block _ hXl).trans hX)⟩))
  have HRI := Lib.hid (ris_any _ W2 (h.below hb (Nat.le_refl _)) (by omega) (by omega))
  have HPI := Lib.hid (fun W (hW : Below W2.heap.size W2 W) => is_any _ W ((h.below hb (Nat.le_refl _)).below hW (Nat.le_refl _)) (by omega) (by omega))
  rw [ho] at HRI HPI
  have HB2 := Lib.hid hb
  obtain ⟨N1, hN1⟩ : ∃ N, E.vars.length = N := ⟨_, rfl⟩
  obtain ⟨N2, hN2⟩ : ∃ N, E.args.length = N := ⟨_, rfl⟩
  obtain ⟨N3, hN3⟩ : ∃ N, E.funs.length = N := ⟨_, rfl⟩
  rw [hN1, hN2, hN3] at hW2 HK HRI HPI
  rw [hN1] at hv
  rw [hN3] at hf
  rw [hN1, hN2, hN3]
  obtain ⟨k0, k1, k2⟩ := HK.out W2 (Below.refl _ _)
  have g1 : (nl : Int) ≤ 60 := by omega
  have g2 : (N1 : Int) ≤ 30 := by omega
  have g3 : (N3 : Int) ≤ 30 := by omega
  clear h hb hX hXl hN1 hN2 hN3 ho hv hf hn
  go_enter Try.func3, Try.ntmps3
  go_wp2_with (first
    | (rw [hW2]; clear hW2)
    | (go_at_call 6; (refine HRI.out.mono ?_); rintro e w3 ⟨rfl, hb3⟩; obtain ⟨k0, k1, k2⟩ := HK.out w3 hb3; have HB3 := Lib.hid hb3; clear hb3)
    | (go_at_call 7; (refine (HPI.out w3 HB3.out).mono ?_); rintro e w4 ⟨rfl, hb4⟩; have HB4 := Lib.hid (en_trans HB3.out hb4); clear hb4)
    | (go_at_call 8; (refine (known_any w4).mono ?_); rintro e w5 ⟨rfl, hb5⟩; have HB5 := Lib.hid (en_trans HB4.out hb5); clear hb5))
  go_ret
  exact ⟨rfl, en_trans HB2.out HB5.out⟩

theorem plays_law {E : Ev} {l : List Ac} (v vl : Value) (w : World) (h : EnvAt w v E) (hl : Rd 4 aC w vl l) (ha : E.args.length * 16 ≤ 140737488355328) :
    Calls Try.prog 3 #[v, vl] w fun e w' => e = .returned (.bool true) ∧ Below w.heap.size w w' := by
  obtain ⟨p1, c1, p2, c2, p3, c3, rfl, -⟩ := h.shape
  obtain ⟨pl, cl, rfl⟩ := hl.shape
  by_cases h1 : 60 < l.length
  · exact plays_many _ _ _ _ _ _ _ _ _ _ _ _ w (.inl h1)
  · by_cases h2 : 30 < E.vars.length
    · exact plays_many _ _ _ _ _ _ _ _ _ _ _ _ w (.inr (.inl ⟨by omega, h2⟩))
    · by_cases h3 : 30 < E.funs.length
      · exact plays_many _ _ _ _ _ _ _ _ _ _ _ _ w (.inr (.inr ⟨by omega, by omega, h3⟩))
      · cases ho : (isO E.vars && isO E.funs)
        · exact plays_odd _ _ _ _ _ _ _ _ _ w h (by omega) (by omega) (by omega) ho
        · rw [Bool.and_eq_true] at ho
          exact plays_ord _ _ _ _ _ _ _ _ w h hl (by omega) (by omega) (by omega) ha (isO_iff.1 ho.1) (isO_iff.1 ho.2)
end Go.Proofs.Ytbbopbbnhkcfdaa
