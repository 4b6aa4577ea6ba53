/-
  Proved: a contract of tree's variable. Conditions: tree's row answers for a Var's Word.
-/
import Derived.Test.YtloaalapkmbgeaaDoorTreeReck
namespace Go.Proofs.YtloaalapkmbgeaaDoor
open Go Go.RowKit GlyphMath LexMath TreeMath

/-- What row does with a row of parts, so many Words still being allowed. -/
def RowDo (k d : Nat) : Prop := ∀ (ps : List Pt) (v : Value) (w : World), PsAt w v ps → Small ps →
  Calls Tryd.prog 19 #[v, .int .i64 (d : Int)] w fun e w' => e = .returned (.bool (rowT k ps)) ∧ Below w.heap.size w w'

theorem empty_len {α : Type} (l : List α) : ((l.length : Int) == 0) = l.isEmpty := by
  cases l with
  | nil => rfl
  | cons a r =>
    show (((a :: r).length : Int) == 0) = false
    exact int_ne (by rw [List.length_cons]; omega)
theorem list_ne {l k : List UInt8} (h : l ≠ k) : (l == k) = false := beq_eq_false_iff_ne.2 h
theorem nil_ne {l : List UInt8} (h : l ≠ []) : l.isEmpty = false := by
  cases l with
  | nil => exact absurd rfl h
  | cons _ _ => rfl

set_option maxHeartbeats 2000000 in
set_option maxRecDepth 100000 in
theorem variable_any {k d : Nat} (hd : d ≤ 20) (hR : RowDo k (d + 1)) (p : Pt) (u : Value) (w : World) (hu : PsAt w u p.word) (hw : Small p.word) :
    Calls Tryd.prog 65 #[partV p u, .int .i64 (d : Int)] w fun e w' => e = .returned (.bool (varT (rowT k) p)) ∧ Below w.heap.size w w' := by
  obtain ⟨kd, tx, op, wd, q⟩ := p
  obtain ⟨a, c, rfl, hlen, -⟩ := hu.is
  have HU := Lib.hid (And.intro hu hw)
  have HN := Lib.hid (fun W => name_any (T tx) W)
  have HO := Lib.hid (fun W => isOther_any tx W)
  have HRW := Lib.hid (fun W (hb : Below w.heap.size w W) => hR wd _ W (HU.out.1.stays hb) HU.out.2)
  have HB := Lib.hid (fun o => below_one w o)
  have hE := empty_len wd
  obtain ⟨E, hEE⟩ : ∃ E, wd.isEmpty = E := ⟨_, rfl⟩
  obtain ⟨N, hN⟩ : ∃ N, nameT tx = N := ⟨_, rfl⟩
  obtain ⟨O, hO⟩ : ∃ O, otherT tx = O := ⟨_, rfl⟩
  obtain ⟨W0, hW0⟩ : ∃ W0, rowT k wd = W0 := ⟨_, rfl⟩
  have HV := Lib.hid (show varT (rowT k) ⟨kd, tx, op, wd, q⟩ = (if N || O then if op = [] then E else if op = [35] then N && E else if op = [58, 61] then N && W0 else if op = [58, 45] then W0 else if op = [58, 43] then W0 else false else false) from by
    rw [← hEE, ← hN, ← hO, ← hW0]; rfl)
  have HN := Lib.hid (show ∀ W, Calls Tryd.prog 47 #[.string (T tx)] W fun e w' => e = .returned (.bool N) ∧ Below W.heap.size W w' from by rw [← hN]; exact HN.out)
  have HO := Lib.hid (show ∀ W, Calls Tryd.prog 81 #[.string (T tx)] W fun e w' => e = .returned (.bool O) ∧ W = w' from by rw [← hO]; exact HO.out)
  rw [hEE] at hE
  have HRW := Lib.hid (show ∀ W, Below w.heap.size w W → Calls Tryd.prog 19 #[.slice a wd.length c, .int .i64 ((d : Int) + 1)] W fun e w' => e = .returned (.bool W0) ∧ Below W.heap.size W w' from by rw [← hW0]; exact HRW.out)
  obtain ⟨R, hR⟩ : ∃ R, varT (rowT k) ⟨kd, tx, op, wd, q⟩ = R := ⟨_, rfl⟩
  have HV := Lib.hid (hR.symm.trans HV.out)
  have hd1 : (d : Int) + 1 ≤ 21 := by omega
  obtain ⟨L, hL⟩ : ∃ L, wd.length = L := ⟨_, rfl⟩
  show Calls _ _ #[.agg #[.int .i64 kd, .string (T tx), .string (T op), .slice a wd.length c, .bool q], _] _ _
  rw [hL] at hE HRW ⊢
  rw [hR]
  obtain ⟨s, hs⟩ : ∃ s, T tx = s := ⟨_, rfl⟩
  rw [hs] at HN HO ⊢
  clear HU hW0 hN hO hEE hR hu hw hlen hs hL hd
  by_cases h0 : op = []
  · have HVc := Lib.hid (show R = (if N || O then E else false) from by rw [HV.out, if_pos h0])
    obtain ⟨o, ho⟩ : ∃ o, T op = o := ⟨_, rfl⟩
    have b0 : o.toList.isEmpty = true := by rw [← ho, Lib.toList_data]; exact (by rw [h0]; rfl)
    rw [ho]
    clear ho h0 HV
    cases N <;> cases O
    all_goals
      go_enter Tryd.func65, Tryd.ntmps65
      go_wp2_with (first
          | (go_at_call 47; refine (HN.out _).mono ?_; rintro e w1 ⟨rfl, hb⟩; obtain ⟨c0, c1, c2, c3, c4⟩ := (PC.new w kd _ _ _ q 30).below hb; have HB1 := Lib.hid ((HB.out _).trans (hb.mono (HB.out _).size)); clear hb)
          | (go_at_call 81; refine (HO.out _).mono ?_; rintro e w2 ⟨rfl, rfl⟩)
          | (go_at_call 19; refine (HRW.out _ HB1.out).mono ?_; rintro e w3 ⟨rfl, hb⟩; have HB2 := Lib.hid (HB1.out.trans (hb.mono HB1.out.size)); clear hb))
      go_ret
      first | exact ⟨ret_bool HVc.out.symm, HB2.out⟩ | exact ⟨ret_bool HVc.out.symm, HB1.out⟩
  · skip
    by_cases h1 : op = [35]
    · have HVc := Lib.hid (show R = (if N || O then N && E else false) from by rw [HV.out, if_neg h0, if_pos h1])
      obtain ⟨o, ho⟩ : ∃ o, T op = o := ⟨_, rfl⟩
      have b0 : o.toList.isEmpty = false := by rw [← ho, Lib.toList_data]; exact nil_ne h0
      have b1 : (o.toList == [35]) = true := by rw [← ho, Lib.toList_data]; exact (by rw [h1]; rfl)
      rw [ho]
      clear ho h0 h1 HV
      cases N <;> cases O
      all_goals
        go_enter Tryd.func65, Tryd.ntmps65
        go_wp2_with (first
          | (go_at_call 47; refine (HN.out _).mono ?_; rintro e w1 ⟨rfl, hb⟩; obtain ⟨c0, c1, c2, c3, c4⟩ := (PC.new w kd _ _ _ q 30).below hb; have HB1 := Lib.hid ((HB.out _).trans (hb.mono (HB.out _).size)); clear hb)
          | (go_at_call 81; refine (HO.out _).mono ?_; rintro e w2 ⟨rfl, rfl⟩)
          | (go_at_call 19; refine (HRW.out _ HB1.out).mono ?_; rintro e w3 ⟨rfl, hb⟩; have HB2 := Lib.hid (HB1.out.trans (hb.mono HB1.out.size)); clear hb))
        go_ret
        first | exact ⟨ret_bool HVc.out.symm, HB2.out⟩ | exact ⟨ret_bool HVc.out.symm, HB1.out⟩
    · skip
      by_cases h2 : op = [58, 61]
      · have HVc := Lib.hid (show R = (if N || O then N && W0 else false) from by rw [HV.out, if_neg h0, if_neg h1, if_pos h2])
        obtain ⟨o, ho⟩ : ∃ o, T op = o := ⟨_, rfl⟩
        have b0 : o.toList.isEmpty = false := by rw [← ho, Lib.toList_data]; exact nil_ne h0
        have b1 : (o.toList == [35]) = false := by rw [← ho, Lib.toList_data]; exact list_ne h1
        have b2 : (o.toList == [58, 61]) = true := by rw [← ho, Lib.toList_data]; exact (by rw [h2]; rfl)
        rw [ho]
        clear ho h0 h1 h2 HV
        cases N <;> cases O
        all_goals
          go_enter Tryd.func65, Tryd.ntmps65
          go_wp2_with (first
          | (go_at_call 47; refine (HN.out _).mono ?_; rintro e w1 ⟨rfl, hb⟩; obtain ⟨c0, c1, c2, c3, c4⟩ := (PC.new w kd _ _ _ q 30).below hb; have HB1 := Lib.hid ((HB.out _).trans (hb.mono (HB.out _).size)); clear hb)
          | (go_at_call 81; refine (HO.out _).mono ?_; rintro e w2 ⟨rfl, rfl⟩)
          | (go_at_call 19; refine (HRW.out _ HB1.out).mono ?_; rintro e w3 ⟨rfl, hb⟩; have HB2 := Lib.hid (HB1.out.trans (hb.mono HB1.out.size)); clear hb))
          go_ret
          first | exact ⟨ret_bool HVc.out.symm, HB2.out⟩ | exact ⟨ret_bool HVc.out.symm, HB1.out⟩
      · skip
        by_cases h3 : op = [58, 45]
        · have HVc := Lib.hid (show R = (if N || O then W0 else false) from by rw [HV.out, if_neg h0, if_neg h1, if_neg h2, if_pos h3])
          obtain ⟨o, ho⟩ : ∃ o, T op = o := ⟨_, rfl⟩
          have b0 : o.toList.isEmpty = false := by rw [← ho, Lib.toList_data]; exact nil_ne h0
          have b1 : (o.toList == [35]) = false := by rw [← ho, Lib.toList_data]; exact list_ne h1
          have b2 : (o.toList == [58, 61]) = false := by rw [← ho, Lib.toList_data]; exact list_ne h2
          have b3 : (o.toList == [58, 45]) = true := by rw [← ho, Lib.toList_data]; exact (by rw [h3]; rfl)
          rw [ho]
          clear ho h0 h1 h2 h3 HV
          cases N <;> cases O
          all_goals
            go_enter Tryd.func65, Tryd.ntmps65
            go_wp2_with (first
          | (go_at_call 47; refine (HN.out _).mono ?_; rintro e w1 ⟨rfl, hb⟩; obtain ⟨c0, c1, c2, c3, c4⟩ := (PC.new w kd _ _ _ q 30).below hb; have HB1 := Lib.hid ((HB.out _).trans (hb.mono (HB.out _).size)); clear hb)
          | (go_at_call 81; refine (HO.out _).mono ?_; rintro e w2 ⟨rfl, rfl⟩)
          | (go_at_call 19; refine (HRW.out _ HB1.out).mono ?_; rintro e w3 ⟨rfl, hb⟩; have HB2 := Lib.hid (HB1.out.trans (hb.mono HB1.out.size)); clear hb))
            go_ret
            first | exact ⟨ret_bool HVc.out.symm, HB2.out⟩ | exact ⟨ret_bool HVc.out.symm, HB1.out⟩
        · skip
          by_cases h4 : op = [58, 43]
          · have HVc := Lib.hid (show R = (if N || O then W0 else false) from by rw [HV.out, if_neg h0, if_neg h1, if_neg h2, if_neg h3, if_pos h4])
            obtain ⟨o, ho⟩ : ∃ o, T op = o := ⟨_, rfl⟩
            have b0 : o.toList.isEmpty = false := by rw [← ho, Lib.toList_data]; exact nil_ne h0
            have b1 : (o.toList == [35]) = false := by rw [← ho, Lib.toList_data]; exact list_ne h1
            have b2 : (o.toList == [58, 61]) = false := by rw [← ho, Lib.toList_data]; exact list_ne h2
            have b3 : (o.toList == [58, 45]) = false := by rw [← ho, Lib.toList_data]; exact list_ne h3
            have b4 : (o.toList == [58, 43]) = true := by rw [← ho, Lib.toList_data]; exact (by rw [h4]; rfl)
            rw [ho]
            clear ho h0 h1 h2 h3 h4 HV
            cases N <;> cases O
            all_goals
              go_enter Tryd.func65, Tryd.ntmps65
              go_wp2_with (first
          | (go_at_call 47; refine (HN.out _).mono ?_; rintro e w1 ⟨rfl, hb⟩; obtain ⟨c0, c1, c2, c3, c4⟩ := (PC.new w kd _ _ _ q 30).below hb; have HB1 := Lib.hid ((HB.out _).trans (hb.mono (HB.out _).size)); clear hb)
          | (go_at_call 81; refine (HO.out _).mono ?_; rintro e w2 ⟨rfl, rfl⟩)
          | (go_at_call 19; refine (HRW.out _ HB1.out).mono ?_; rintro e w3 ⟨rfl, hb⟩; have HB2 := Lib.hid (HB1.out.trans (hb.mono HB1.out.size)); clear hb))
              go_ret
              first | exact ⟨ret_bool HVc.out.symm, HB2.out⟩ | exact ⟨ret_bool HVc.out.symm, HB1.out⟩
          · have HVc := Lib.hid (show R = (if N || O then false else false) from by rw [HV.out, if_neg h0, if_neg h1, if_neg h2, if_neg h3, if_neg h4])
            obtain ⟨o, ho⟩ : ∃ o, T op = o := ⟨_, rfl⟩
            have b0 : o.toList.isEmpty = false := by rw [← ho, Lib.toList_data]; exact nil_ne h0
            have b1 : (o.toList == [35]) = false := by rw [← ho, Lib.toList_data]; exact list_ne h1
            have b2 : (o.toList == [58, 61]) = false := by rw [← ho, Lib.toList_data]; exact list_ne h2
            have b3 : (o.toList == [58, 45]) = false := by rw [← ho, Lib.toList_data]; exact list_ne h3
            have b4 : (o.toList == [58, 43]) = false := by rw [← ho, Lib.toList_data]; exact list_ne h4
            rw [ho]
            clear ho h0 h1 h2 h3 h4 HV
            cases N <;> cases O
            all_goals
              go_enter Tryd.func65, Tryd.ntmps65
              go_wp2_with (first
          | (go_at_call 47; refine (HN.out _).mono ?_; rintro e w1 ⟨rfl, hb⟩; obtain ⟨c0, c1, c2, c3, c4⟩ := (PC.new w kd _ _ _ q 30).below hb; have HB1 := Lib.hid ((HB.out _).trans (hb.mono (HB.out _).size)); clear hb)
          | (go_at_call 81; refine (HO.out _).mono ?_; rintro e w2 ⟨rfl, rfl⟩)
          | (go_at_call 19; refine (HRW.out _ HB1.out).mono ?_; rintro e w3 ⟨rfl, hb⟩; have HB2 := Lib.hid (HB1.out.trans (hb.mono HB1.out.size)); clear hb))
              go_ret
              first | exact ⟨ret_bool HVc.out.symm, HB2.out⟩ | exact ⟨ret_bool HVc.out.symm, HB1.out⟩
end Go.Proofs.YtloaalapkmbgeaaDoor
