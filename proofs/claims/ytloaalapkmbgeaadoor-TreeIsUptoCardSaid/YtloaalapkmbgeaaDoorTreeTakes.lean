/-
  Proved: contracts of tree's rank and takes. Conditions: none.
-/
import Derived.Test.YtloaalapkmbgeaaDoorTreeBare
namespace Go.Proofs.YtloaalapkmbgeaaDoor
open Go Go.RowKit GlyphMath LexMath TreeMath

/-- A node that was handed over. -/
def nodeV (n : Nd) (kv wv pv av rv : Value) : Value := .agg #[txt n.op, txt n.name, kv, wv, pv, av, rv]

theorem rank_any (op : List UInt8) (w : World) :
    Calls Tryd.prog 56 #[.string (T op)] w fun e w' => e = .returned (.int .i64 (rankT op)) ∧ w = w' := by
  obtain ⟨R, hR⟩ : ∃ R, rankT op = R := ⟨_, rfl⟩
  have HR := Lib.hid (show R = (if op = [115, 101, 113] then 4 else if op = [97, 110, 100] then 3 else if op = [111, 114] then 3 else if op = [110, 111, 116] then 2 else if op = [112, 105, 112, 101] then 1 else 0) from hR.symm)
  rw [hR]
  obtain ⟨o, ho⟩ : ∃ o, T op = o := ⟨_, rfl⟩
  have hl : o.toList = op := by rw [← ho, Lib.toList_data]
  rw [ho]
  clear hR ho
  by_cases h0 : op = [115, 101, 113]
  · have b0 : (o.toList == [115, 101, 113]) = true := by rw [hl, h0]; rfl
    have HV := Lib.hid (show R = 4 by rw [HR.out, if_pos h0])
    rw [HV.out]
    clear HR HV hl h0
    go_enter Tryd.func56, Tryd.ntmps56
    go_wp2_with fail
    go_ret
    exact ⟨rfl, rfl⟩
  · have b0 : (o.toList == [115, 101, 113]) = false := by rw [hl]; exact list_ne h0
    by_cases h1 : op = [97, 110, 100]
    · have b1 : (o.toList == [97, 110, 100]) = true := by rw [hl, h1]; rfl
      have HV := Lib.hid (show R = 3 by rw [HR.out, if_neg h0, if_pos h1])
      rw [HV.out]
      clear HR HV hl h0 h1
      go_enter Tryd.func56, Tryd.ntmps56
      go_wp2_with fail
      go_ret
      exact ⟨rfl, rfl⟩
    · have b1 : (o.toList == [97, 110, 100]) = false := by rw [hl]; exact list_ne h1
      by_cases h2 : op = [111, 114]
      · have b2 : (o.toList == [111, 114]) = true := by rw [hl, h2]; rfl
        have HV := Lib.hid (show R = 3 by rw [HR.out, if_neg h0, if_neg h1, if_pos h2])
        rw [HV.out]
        clear HR HV hl h0 h1 h2
        go_enter Tryd.func56, Tryd.ntmps56
        go_wp2_with fail
        go_ret
        exact ⟨rfl, rfl⟩
      · have b2 : (o.toList == [111, 114]) = false := by rw [hl]; exact list_ne h2
        by_cases h3 : op = [110, 111, 116]
        · have b3 : (o.toList == [110, 111, 116]) = true := by rw [hl, h3]; rfl
          have HV := Lib.hid (show R = 2 by rw [HR.out, if_neg h0, if_neg h1, if_neg h2, if_pos h3])
          rw [HV.out]
          clear HR HV hl h0 h1 h2 h3
          go_enter Tryd.func56, Tryd.ntmps56
          go_wp2_with fail
          go_ret
          exact ⟨rfl, rfl⟩
        · have b3 : (o.toList == [110, 111, 116]) = false := by rw [hl]; exact list_ne h3
          by_cases h4 : op = [112, 105, 112, 101]
          · have b4 : (o.toList == [112, 105, 112, 101]) = true := by rw [hl, h4]; rfl
            have HV := Lib.hid (show R = 1 by rw [HR.out, if_neg h0, if_neg h1, if_neg h2, if_neg h3, if_pos h4])
            rw [HV.out]
            clear HR HV hl h0 h1 h2 h3 h4
            go_enter Tryd.func56, Tryd.ntmps56
            go_wp2_with fail
            go_ret
            exact ⟨rfl, rfl⟩
          · have b4 : (o.toList == [112, 105, 112, 101]) = false := by rw [hl]; exact list_ne h4
            have HV := Lib.hid (show R = 0 by rw [HR.out, if_neg h0, if_neg h1, if_neg h2, if_neg h3, if_neg h4])
            rw [HV.out]
            clear HR HV hl h0 h1 h2 h3 h4
            go_enter Tryd.func56, Tryd.ntmps56
            go_wp2_with fail
            go_ret
            exact ⟨rfl, rfl⟩

theorem rank_q (s : ByteArray) (w : World) :
    Calls Tryd.prog 56 #[.string s] w fun e w' => e = .returned (.int .i64 (rankT s.data.toList)) ∧ ∃ m, w' = w.drewN m := by
  refine (rank_any s.data.toList w).mono ?_
  rintro e w' ⟨rfl, rfl⟩
  exact ⟨rfl, 0, rfl⟩

set_option maxHeartbeats 1000000 in
set_option maxRecDepth 100000 in
theorem ttakes_any (n k : Nd) (i : Nat) (a1 a2 a3 a4 a5 c1 c2 c3 c4 : Value) (rp : Option Addr) (rc : Nat) (w : World) :
    Calls Tryd.prog 26 #[nodeV n a1 a2 a3 a4 a5, .int .i64 (i : Int), nodeV k c1 c2 c3 c4 (.slice rp k.redirs.length rc)] w fun e w' => e = .returned (.bool (takesT n i k)) ∧ Below w.heap.size w w' := by
  have HB := Lib.hid (fun o p => below_two w o p)
  obtain ⟨R, hR⟩ : ∃ R, takesT n i k = R := ⟨_, rfl⟩
  have HR := Lib.hid (show R = (if n.op = [102, 117, 110] then (k.op == [103, 114, 111, 117, 112] || k.op == [115, 117, 98]) && k.redirs.isEmpty else if (n.op = [97, 110, 100] ∨ n.op = [111, 114]) ∧ i = 0 then decide (rankT k.op ≤ rankT n.op) else rankT n.op == 0 || decide (rankT k.op < rankT n.op)) from hR.symm)
  have hE := empty_len k.redirs
  obtain ⟨E, hEE⟩ : ∃ E, k.redirs.isEmpty = E := ⟨_, rfl⟩
  rw [hEE] at hE HR
  obtain ⟨o, ho⟩ : ∃ o, T n.op = o := ⟨_, rfl⟩
  have hl : o.toList = n.op := by rw [← ho, Lib.toList_data]
  obtain ⟨q, hq⟩ : ∃ o, T k.op = o := ⟨_, rfl⟩
  have hlq : q.toList = k.op := by rw [← hq, Lib.toList_data]
  obtain ⟨x1, hx1⟩ : ∃ o, T n.name = o := ⟨_, rfl⟩
  obtain ⟨x2, hx2⟩ : ∃ o, T k.name = o := ⟨_, rfl⟩
  obtain ⟨L, hL⟩ : ∃ L, k.redirs.length = L := ⟨_, rfl⟩
  rw [hR]
  show Calls _ _ #[.agg #[.string (T n.op), .string (T n.name), a1, a2, a3, a4, a5], _, .agg #[.string (T k.op), .string (T k.name), c1, c2, c3, c4, .slice rp k.redirs.length rc]] _ _
  obtain ⟨rn, hrn⟩ : ∃ rn, rankT n.op = rn := ⟨_, rfl⟩
  obtain ⟨rk, hrk⟩ : ∃ rn, rankT k.op = rn := ⟨_, rfl⟩
  rw [hrn, hrk] at HR
  have hrn : rankT o.data.toList = rn := by rw [← ho]; exact hrn
  have hrk : rankT q.data.toList = rk := by rw [← hq]; exact hrk
  have HRN := Lib.hid (show ∀ W, Calls Tryd.prog 56 #[.string o] W fun e w' => e = .returned (.int .i64 rn) ∧ ∃ m, w' = W.drewN m from fun W => by rw [← hrn]; exact rank_q o W)
  rw [ho, hq, hx1, hx2, hL]
  rw [hL] at hE
  have HO := Lib.hid (And.intro hrn hrk)
  by_cases h0 : n.op = [102, 117, 110]
  · have b0 : (o.toList == [102, 117, 110]) = true := by rw [hl, h0]; rfl
    have HV := Lib.hid (show R = ((q.toList == [103, 114, 111, 117, 112] || q.toList == [115, 117, 98]) && E) by rw [HR.out, if_pos h0, hlq])
    clear HR hl hlq hEE ho hq hx1 hx2 hL hrn hrk h0 hR
    obtain ⟨g, hg⟩ : ∃ g, (q.toList == [103, 114, 111, 117, 112]) = g := ⟨_, rfl⟩
    obtain ⟨s, hs⟩ : ∃ g, (q.toList == [115, 117, 98]) = g := ⟨_, rfl⟩
    rw [hg, hs] at HV
    cases g <;> cases s <;> cases E
    all_goals
      go_enter Tryd.func26, Tryd.ntmps26
      go_wp2_with fail
      go_ret
      exact ⟨ret_bool HV.out.symm, HB.out _ _⟩
  · have b0 : (o.toList == [102, 117, 110]) = false := by rw [hl]; exact list_ne h0
    by_cases h1 : (n.op = [97, 110, 100] ∨ n.op = [111, 114]) ∧ i = 0
    · have HV := Lib.hid (show R = decide (rk ≤ rn) by rw [HR.out, if_neg h0, if_pos h1])
      obtain ⟨h2, rfl⟩ := h1
      rcases h2 with h2 | h2
      · have b1 : (o.toList == [97, 110, 100]) = true := by rw [hl, h2]; rfl
        clear HR hl hlq hEE ho hq hx1 hx2 hL hR h2 hE h0 hrn hrk
        go_enter Tryd.func26, Tryd.ntmps26
        go_wp2_with fail
        go_quiet ((go_at_call 56; exact Calls.quiet_of (rank_q _ _)))
        go_wp2_with fail
        go_ret
        exact ⟨ret_bool (by rw [HV.out, ← HO.out.1, ← HO.out.2]), (HB.out _ _).trans (below_drew _ _ _)⟩
      · have b1 : (o.toList == [97, 110, 100]) = false := by rw [hl, h2]; rfl
        have b2 : (o.toList == [111, 114]) = true := by rw [hl, h2]; rfl
        clear HR hl hlq hEE ho hq hx1 hx2 hL hR h2 hE h0 hrn hrk
        go_enter Tryd.func26, Tryd.ntmps26
        go_wp2_with fail
        go_quiet ((go_at_call 56; exact Calls.quiet_of (rank_q _ _)))
        go_wp2_with fail
        go_ret
        exact ⟨ret_bool (by rw [HV.out, ← HO.out.1, ← HO.out.2]), (HB.out _ _).trans (below_drew _ _ _)⟩
    · have HV := Lib.hid (show R = (rn == 0 || decide (rk < rn)) by rw [HR.out, if_neg h0, if_neg h1])
      obtain ⟨Z, hZ⟩ : ∃ Z, (rankT o.data.toList == 0) = Z := ⟨_, rfl⟩
      have HZ := Lib.hid (show (rn == 0) = Z by rw [← hrn]; exact hZ)
      have hco : (o.toList == [97, 110, 100]) = true ∧ ((i : Int) == 0) = false ∨ (o.toList == [97, 110, 100]) = false ∧ (o.toList == [111, 114]) = true ∧ ((i : Int) == 0) = false ∨ (o.toList == [97, 110, 100]) = false ∧ (o.toList == [111, 114]) = false := by
        rw [hl]
        by_cases k1 : n.op = [97, 110, 100]
        · exact .inl ⟨by rw [k1]; rfl, int_ne fun e => h1 ⟨.inl k1, by omega⟩⟩
        · by_cases k2 : n.op = [111, 114]
          · exact .inr (.inl ⟨list_ne k1, by rw [k2]; rfl, int_ne fun e => h1 ⟨.inr k2, by omega⟩⟩)
          · exact .inr (.inr ⟨list_ne k1, list_ne k2⟩)
      clear HR hl hlq hEE ho hq hx1 hx2 hL hR hE h0 hrn hrk h1
      rcases hco with ⟨b1, bi⟩ | ⟨b1, b2, bi⟩ | ⟨b1, b2⟩
      all_goals
        cases Z
        · go_enter Tryd.func26, Tryd.ntmps26
          go_wp2_with fail
          go_quiet ((go_at_call 56; exact Calls.quiet_of (rank_q _ _)))
          go_wp2_with fail
          go_ret
          exact ⟨ret_bool (by rw [HV.out, HZ.out, ← HO.out.1, ← HO.out.2]; rfl), (HB.out _ _).trans (below_drew _ _ _)⟩
        · go_enter Tryd.func26, Tryd.ntmps26
          go_wp2_with fail
          go_quiet ((go_at_call 56; exact Calls.quiet_of (rank_q _ _)))
          go_wp2_with fail
          go_ret
          exact ⟨ret_bool (by rw [HV.out, HZ.out]; rfl), (HB.out _ _).trans (below_drew _ _ _)⟩
end Go.Proofs.YtloaalapkmbgeaaDoor
