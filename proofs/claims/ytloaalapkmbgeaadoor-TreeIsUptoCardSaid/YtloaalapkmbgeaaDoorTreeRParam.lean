/-
  Proved: a contract of the statements' own param. Conditions: their parts answers for a Var's Word; a text of at most 2^20 bytes; the library's tables lie as they should.
-/
import Derived.Test.YtloaalapkmbgeaaDoorTreeRArith
namespace Go.Proofs.YtloaalapkmbgeaaDoor
open Go Go.RowKit GlyphMath LexMath TreeMath

/-- What the statements' own parts does with a row of parts within a Word, so many Words still being allowed. -/
def RPartsDo (k d : Nat) (wi : Bool) : Prop := ∀ (ps : List Pt) (v : Value) (w : World), PsAt w v ps → Small ps → Tabs w →
  Calls Tryd.prog 78 #[v, .bool wi, .int .i64 (d : Int)] w fun e w' => e = .returned (.bool (rowT k ps)) ∧ Below w.heap.size w w'

set_option maxHeartbeats 2000000 in
set_option maxRecDepth 100000 in
theorem rparam_in {k d : Nat} (hkd : k + d = 20) (hdd : d < 20) (hR : RPartsDo k (d + 1) true) (p : Pt) (u : Value) (w : World) (hu : PsAt w u p.word) (hw : Small p.word) (hs : p.text.length ≤ 1048576) (hT : Tabs w) :
    Calls Tryd.prog 88 #[partV p u, .int .i64 (d : Int)] w fun e w' => e = .returned (.bool (varT (rowT k) p)) ∧ Below w.heap.size w w' := by
  obtain ⟨kd, tx, op, wd, q⟩ := p
  obtain ⟨a, c, rfl, hlen, -⟩ := hu.is
  have HU := Lib.hid (And.intro hu hw)
  have HN := Lib.hid (fun W (hW : Tabs W) => rname_any (T tx) W (by show tx.length ≤ _; simp only at hs; omega) hW)
  have HT := Lib.hid (fun o => hT.below (below_one w o))
  have HO := Lib.hid (fun W => tspecial_any tx W)
  have HRW := Lib.hid (fun W (hb : Below w.heap.size w W) => hR wd _ W (HU.out.1.stays hb) HU.out.2 (hT.below hb))
  have HB := Lib.hid (fun o => below_one w o)
  have hE := empty_len wd
  obtain ⟨E, hEE⟩ : ∃ E, wd.isEmpty = E := ⟨_, rfl⟩
  obtain ⟨N, hN⟩ : ∃ N, nameT tx = N := ⟨_, rfl⟩
  obtain ⟨O, hO⟩ : ∃ O, otherT tx = O := ⟨_, rfl⟩
  obtain ⟨W0, hW0⟩ : ∃ W0, rowT k wd = W0 := ⟨_, rfl⟩
  have HV := Lib.hid (show varT (rowT k) ⟨kd, tx, op, wd, q⟩ = (if N || O then if op = [] then E else if op = [35] then N && E else if op = [58, 61] then N && W0 else if op = [58, 45] then W0 else if op = [58, 43] then W0 else false else false) from by
    rw [← hEE, ← hN, ← hO, ← hW0]; rfl)
  have HN := Lib.hid (show ∀ W, Tabs W → Calls Tryd.prog 29 #[.string (T tx)] W fun e w' => e = .returned (.bool N) ∧ Below W.heap.size W w' from by rw [← hN]; exact HN.out)
  have HO := Lib.hid (show ∀ W, Calls Tryd.prog 94 #[.string (T tx)] W fun e w' => e = .returned (.bool O) ∧ W = w' from by rw [← hO]; exact HO.out)
  rw [hEE] at hE
  have HRW := Lib.hid (show ∀ W, Below w.heap.size w W → Calls Tryd.prog 78 #[.slice a wd.length c, .bool true, .int .i64 ((d : Int) + 1)] W fun e w' => e = .returned (.bool W0) ∧ Below W.heap.size W w' from by rw [← hW0]; exact HRW.out)
  obtain ⟨R, hR⟩ : ∃ R, varT (rowT k) ⟨kd, tx, op, wd, q⟩ = R := ⟨_, rfl⟩
  have HV := Lib.hid (hR.symm.trans HV.out)
  have hd1 : (d : Int) + 1 ≤ 21 := by omega
  have hd2 : (d : Int) < 20 := by omega
  obtain ⟨L, hL⟩ : ∃ L, wd.length = L := ⟨_, rfl⟩
  show Calls _ _ #[.agg #[.int .i64 kd, .string (T tx), .string (T op), .slice a wd.length c, .bool q], _] _ _
  rw [hL] at hE HRW ⊢
  rw [hR]
  obtain ⟨s, hss⟩ : ∃ s, T tx = s := ⟨_, rfl⟩
  rw [hss] at HN HO ⊢
  clear HU hW0 hN hO hEE hR hu hw hlen hs hss hL hT hdd hkd
  by_cases h0 : op = []
  · have HVc := Lib.hid (show R = (if N || O then E else false) from by rw [HV.out, if_pos h0])
    obtain ⟨o, ho⟩ : ∃ o, T op = o := ⟨_, rfl⟩
    have b0 : o.toList.isEmpty = true := by rw [← ho, Lib.toList_data]; exact (by rw [h0]; rfl)
    rw [ho]
    clear ho h0 HV
    cases N <;> cases O
    all_goals
      go_enter Tryd.func88, Tryd.ntmps88
      go_wp2_with (first
          | (go_at_call 29; refine (HN.out _ (HT.out _)).mono ?_; rintro e w1 ⟨rfl, hb⟩; obtain ⟨c0, c1, c2, c3, c4⟩ := (PC.new w kd _ _ _ q 30).below hb; have HB1 := Lib.hid ((HB.out _).trans (hb.mono (HB.out _).size)); clear hb)
          | (go_at_call 94; refine (HO.out _).mono ?_; rintro e w2 ⟨rfl, rfl⟩)
          | (go_at_call 78; refine (HRW.out _ HB1.out).mono ?_; rintro e w3 ⟨rfl, hb⟩; have HB2 := Lib.hid (HB1.out.trans (hb.mono HB1.out.size)); clear hb))
      go_ret
      first | exact ⟨ret_bool HVc.out.symm, HB2.out⟩ | exact ⟨ret_bool HVc.out.symm, HB1.out⟩
  · skip
    by_cases h1 : op = [35]
    · have HVc := Lib.hid (show R = (if N || O then N && E else false) from by rw [HV.out, if_neg h0, if_pos h1])
      obtain ⟨o, ho⟩ : ∃ o, T op = o := ⟨_, rfl⟩
      have b0 : o.toList.isEmpty = false := by rw [← ho, Lib.toList_data]; exact nil_ne h0
      have b1 : (o.toList == [35]) = true := by rw [← ho, Lib.toList_data]; exact (by rw [h1]; rfl)
      rw [ho]
      clear ho h0 h1 HV
      cases N <;> cases O
      all_goals
        go_enter Tryd.func88, Tryd.ntmps88
        go_wp2_with (first
          | (go_at_call 29; refine (HN.out _ (HT.out _)).mono ?_; rintro e w1 ⟨rfl, hb⟩; obtain ⟨c0, c1, c2, c3, c4⟩ := (PC.new w kd _ _ _ q 30).below hb; have HB1 := Lib.hid ((HB.out _).trans (hb.mono (HB.out _).size)); clear hb)
          | (go_at_call 94; refine (HO.out _).mono ?_; rintro e w2 ⟨rfl, rfl⟩)
          | (go_at_call 78; refine (HRW.out _ HB1.out).mono ?_; rintro e w3 ⟨rfl, hb⟩; have HB2 := Lib.hid (HB1.out.trans (hb.mono HB1.out.size)); clear hb))
        go_ret
        first | exact ⟨ret_bool HVc.out.symm, HB2.out⟩ | exact ⟨ret_bool HVc.out.symm, HB1.out⟩
    · skip
      by_cases h2 : op = [58, 61]
      · have HVc := Lib.hid (show R = (if N || O then N && W0 else false) from by rw [HV.out, if_neg h0, if_neg h1, if_pos h2])
        obtain ⟨o, ho⟩ : ∃ o, T op = o := ⟨_, rfl⟩
        have b0 : o.toList.isEmpty = false := by rw [← ho, Lib.toList_data]; exact nil_ne h0
        have b1 : (o.toList == [35]) = false := by rw [← ho, Lib.toList_data]; exact list_ne h1
        have b2 : (o.toList == [58, 61]) = true := by rw [← ho, Lib.toList_data]; exact (by rw [h2]; rfl)
        rw [ho]
        clear ho h0 h1 h2 HV
        cases N <;> cases O
        all_goals
          go_enter Tryd.func88, Tryd.ntmps88
          go_wp2_with (first
          | (go_at_call 29; refine (HN.out _ (HT.out _)).mono ?_; rintro e w1 ⟨rfl, hb⟩; obtain ⟨c0, c1, c2, c3, c4⟩ := (PC.new w kd _ _ _ q 30).below hb; have HB1 := Lib.hid ((HB.out _).trans (hb.mono (HB.out _).size)); clear hb)
          | (go_at_call 94; refine (HO.out _).mono ?_; rintro e w2 ⟨rfl, rfl⟩)
          | (go_at_call 78; refine (HRW.out _ HB1.out).mono ?_; rintro e w3 ⟨rfl, hb⟩; have HB2 := Lib.hid (HB1.out.trans (hb.mono HB1.out.size)); clear hb))
          go_ret
          first | exact ⟨ret_bool HVc.out.symm, HB2.out⟩ | exact ⟨ret_bool HVc.out.symm, HB1.out⟩
      · skip
        by_cases h3 : op = [58, 45]
        · have HVc := Lib.hid (show R = (if N || O then W0 else false) from by rw [HV.out, if_neg h0, if_neg h1, if_neg h2, if_pos h3])
          obtain ⟨o, ho⟩ : ∃ o, T op = o := ⟨_, rfl⟩
          have b0 : o.toList.isEmpty = false := by rw [← ho, Lib.toList_data]; exact nil_ne h0
          have b1 : (o.toList == [35]) = false := by rw [← ho, Lib.toList_data]; exact list_ne h1
          have b2 : (o.toList == [58, 61]) = false := by rw [← ho, Lib.toList_data]; exact list_ne h2
          have b3 : (o.toList == [58, 45]) = true := by rw [← ho, Lib.toList_data]; exact (by rw [h3]; rfl)
          rw [ho]
          clear ho h0 h1 h2 h3 HV
          cases N <;> cases O
          all_goals
            go_enter Tryd.func88, Tryd.ntmps88
            go_wp2_with (first
          | (go_at_call 29; refine (HN.out _ (HT.out _)).mono ?_; rintro e w1 ⟨rfl, hb⟩; obtain ⟨c0, c1, c2, c3, c4⟩ := (PC.new w kd _ _ _ q 30).below hb; have HB1 := Lib.hid ((HB.out _).trans (hb.mono (HB.out _).size)); clear hb)
          | (go_at_call 94; refine (HO.out _).mono ?_; rintro e w2 ⟨rfl, rfl⟩)
          | (go_at_call 78; refine (HRW.out _ HB1.out).mono ?_; rintro e w3 ⟨rfl, hb⟩; have HB2 := Lib.hid (HB1.out.trans (hb.mono HB1.out.size)); clear hb))
            go_ret
            first | exact ⟨ret_bool HVc.out.symm, HB2.out⟩ | exact ⟨ret_bool HVc.out.symm, HB1.out⟩
        · skip
          by_cases h4 : op = [58, 43]
          · have HVc := Lib.hid (show R = (if N || O then W0 else false) from by rw [HV.out, if_neg h0, if_neg h1, if_neg h2, if_neg h3, if_pos h4])
            obtain ⟨o, ho⟩ : ∃ o, T op = o := ⟨_, rfl⟩
            have b0 : o.toList.isEmpty = false := by rw [← ho, Lib.toList_data]; exact nil_ne h0
            have b1 : (o.toList == [35]) = false := by rw [← ho, Lib.toList_data]; exact list_ne h1
            have b2 : (o.toList == [58, 61]) = false := by rw [← ho, Lib.toList_data]; exact list_ne h2
            have b3 : (o.toList == [58, 45]) = false := by rw [← ho, Lib.toList_data]; exact list_ne h3
            have b4 : (o.toList == [58, 43]) = true := by rw [← ho, Lib.toList_data]; exact (by rw [h4]; rfl)
            rw [ho]
            clear ho h0 h1 h2 h3 h4 HV
            cases N <;> cases O
            all_goals
              go_enter Tryd.func88, Tryd.ntmps88
              go_wp2_with (first
          | (go_at_call 29; refine (HN.out _ (HT.out _)).mono ?_; rintro e w1 ⟨rfl, hb⟩; obtain ⟨c0, c1, c2, c3, c4⟩ := (PC.new w kd _ _ _ q 30).below hb; have HB1 := Lib.hid ((HB.out _).trans (hb.mono (HB.out _).size)); clear hb)
          | (go_at_call 94; refine (HO.out _).mono ?_; rintro e w2 ⟨rfl, rfl⟩)
          | (go_at_call 78; refine (HRW.out _ HB1.out).mono ?_; rintro e w3 ⟨rfl, hb⟩; have HB2 := Lib.hid (HB1.out.trans (hb.mono HB1.out.size)); clear hb))
              go_ret
              first | exact ⟨ret_bool HVc.out.symm, HB2.out⟩ | exact ⟨ret_bool HVc.out.symm, HB1.out⟩
          · have HVc := Lib.hid (show R = (if N || O then false else false) from by rw [HV.out, if_neg h0, if_neg h1, if_neg h2, if_neg h3, if_neg h4])
            obtain ⟨o, ho⟩ : ∃ o, T op = o := ⟨_, rfl⟩
            have b0 : o.toList.isEmpty = false := by rw [← ho, Lib.toList_data]; exact nil_ne h0
            have b1 : (o.toList == [35]) = false := by rw [← ho, Lib.toList_data]; exact list_ne h1
            have b2 : (o.toList == [58, 61]) = false := by rw [← ho, Lib.toList_data]; exact list_ne h2
            have b3 : (o.toList == [58, 45]) = false := by rw [← ho, Lib.toList_data]; exact list_ne h3
            have b4 : (o.toList == [58, 43]) = false := by rw [← ho, Lib.toList_data]; exact list_ne h4
            rw [ho]
            clear ho h0 h1 h2 h3 h4 HV
            cases N <;> cases O
            all_goals
              go_enter Tryd.func88, Tryd.ntmps88
              go_wp2_with (first
          | (go_at_call 29; refine (HN.out _ (HT.out _)).mono ?_; rintro e w1 ⟨rfl, hb⟩; obtain ⟨c0, c1, c2, c3, c4⟩ := (PC.new w kd _ _ _ q 30).below hb; have HB1 := Lib.hid ((HB.out _).trans (hb.mono (HB.out _).size)); clear hb)
          | (go_at_call 94; refine (HO.out _).mono ?_; rintro e w2 ⟨rfl, rfl⟩)
          | (go_at_call 78; refine (HRW.out _ HB1.out).mono ?_; rintro e w3 ⟨rfl, hb⟩; have HB2 := Lib.hid (HB1.out.trans (hb.mono HB1.out.size)); clear hb))
              go_ret
              first | exact ⟨ret_bool HVc.out.symm, HB2.out⟩ | exact ⟨ret_bool HVc.out.symm, HB1.out⟩
set_option maxHeartbeats 2000000 in
set_option maxRecDepth 100000 in
theorem rparam_end (p : Pt) (u : Value) (w : World) (hu : PsAt w u p.word) (hs : p.text.length ≤ 1048576) (hT : Tabs w) :
    Calls Tryd.prog 88 #[partV p u, .int .i64 20] w fun e w' => e = .returned (.bool (varT (rowT 0) p)) ∧ Below w.heap.size w w' := by
  obtain ⟨kd, tx, op, wd, q⟩ := p
  obtain ⟨a, c, rfl, hlen, -⟩ := hu.is
  have HN := Lib.hid (fun W (hW : Tabs W) => rname_any (T tx) W (by show tx.length ≤ _; simp only at hs; omega) hW)
  have HT := Lib.hid (fun o => hT.below (below_one w o))
  have HO := Lib.hid (fun W => tspecial_any tx W)
  have HB := Lib.hid (fun o => below_one w o)
  have hE := empty_len wd
  obtain ⟨E, hEE⟩ : ∃ E, wd.isEmpty = E := ⟨_, rfl⟩
  obtain ⟨N, hN⟩ : ∃ N, nameT tx = N := ⟨_, rfl⟩
  obtain ⟨O, hO⟩ : ∃ O, otherT tx = O := ⟨_, rfl⟩
  have HV := Lib.hid (show varT (rowT 0) ⟨kd, tx, op, wd, q⟩ = (if N || O then if op = [] then E else if op = [35] then N && E else if op = [58, 61] then N && false else if op = [58, 45] then false else if op = [58, 43] then false else false else false) from by
    rw [← hEE, ← hN, ← hO]; rfl)
  have HN := Lib.hid (show ∀ W, Tabs W → Calls Tryd.prog 29 #[.string (T tx)] W fun e w' => e = .returned (.bool N) ∧ Below W.heap.size W w' from by rw [← hN]; exact HN.out)
  have HO := Lib.hid (show ∀ W, Calls Tryd.prog 94 #[.string (T tx)] W fun e w' => e = .returned (.bool O) ∧ W = w' from by rw [← hO]; exact HO.out)
  rw [hEE] at hE
  obtain ⟨R, hR⟩ : ∃ R, varT (rowT 0) ⟨kd, tx, op, wd, q⟩ = R := ⟨_, rfl⟩
  have HV := Lib.hid (hR.symm.trans HV.out)
  obtain ⟨L, hL⟩ : ∃ L, wd.length = L := ⟨_, rfl⟩
  show Calls _ _ #[.agg #[.int .i64 kd, .string (T tx), .string (T op), .slice a wd.length c, .bool q], _] _ _
  rw [hL] at hE ⊢
  rw [hR]
  obtain ⟨s, hss⟩ : ∃ s, T tx = s := ⟨_, rfl⟩
  rw [hss] at HN HO ⊢
  clear hN hO hEE hR hu hlen hs hss hL hT
  by_cases h0 : op = []
  · have HVc := Lib.hid (show R = (if N || O then E else false) from by rw [HV.out, if_pos h0])
    obtain ⟨o, ho⟩ : ∃ o, T op = o := ⟨_, rfl⟩
    have b0 : o.toList.isEmpty = true := by rw [← ho, Lib.toList_data]; exact (by rw [h0]; rfl)
    rw [ho]
    clear ho h0 HV
    cases N <;> cases O
    all_goals
      go_enter Tryd.func88, Tryd.ntmps88
      go_wp2_with (first
          | (go_at_call 29; refine (HN.out _ (HT.out _)).mono ?_; rintro e w1 ⟨rfl, hb⟩; obtain ⟨c0, c1, c2, c3, c4⟩ := (PC.new w kd _ _ _ q 30).below hb; have HB1 := Lib.hid ((HB.out _).trans (hb.mono (HB.out _).size)); clear hb)
          | (go_at_call 94; refine (HO.out _).mono ?_; rintro e w2 ⟨rfl, rfl⟩))
      go_ret
      exact ⟨ret_bool HVc.out.symm, HB1.out⟩
  · skip
    by_cases h1 : op = [35]
    · have HVc := Lib.hid (show R = (if N || O then N && E else false) from by rw [HV.out, if_neg h0, if_pos h1])
      obtain ⟨o, ho⟩ : ∃ o, T op = o := ⟨_, rfl⟩
      have b0 : o.toList.isEmpty = false := by rw [← ho, Lib.toList_data]; exact nil_ne h0
      have b1 : (o.toList == [35]) = true := by rw [← ho, Lib.toList_data]; exact (by rw [h1]; rfl)
      rw [ho]
      clear ho h0 h1 HV
      cases N <;> cases O
      all_goals
        go_enter Tryd.func88, Tryd.ntmps88
        go_wp2_with (first
          | (go_at_call 29; refine (HN.out _ (HT.out _)).mono ?_; rintro e w1 ⟨rfl, hb⟩; obtain ⟨c0, c1, c2, c3, c4⟩ := (PC.new w kd _ _ _ q 30).below hb; have HB1 := Lib.hid ((HB.out _).trans (hb.mono (HB.out _).size)); clear hb)
          | (go_at_call 94; refine (HO.out _).mono ?_; rintro e w2 ⟨rfl, rfl⟩))
        go_ret
        exact ⟨ret_bool HVc.out.symm, HB1.out⟩
    · skip
      by_cases h2 : op = [58, 61]
      · have HVc := Lib.hid (show R = (if N || O then N && false else false) from by rw [HV.out, if_neg h0, if_neg h1, if_pos h2])
        obtain ⟨o, ho⟩ : ∃ o, T op = o := ⟨_, rfl⟩
        have b0 : o.toList.isEmpty = false := by rw [← ho, Lib.toList_data]; exact nil_ne h0
        have b1 : (o.toList == [35]) = false := by rw [← ho, Lib.toList_data]; exact list_ne h1
        have b2 : (o.toList == [58, 61]) = true := by rw [← ho, Lib.toList_data]; exact (by rw [h2]; rfl)
        rw [ho]
        clear ho h0 h1 h2 HV
        cases N <;> cases O
        all_goals
          go_enter Tryd.func88, Tryd.ntmps88
          go_wp2_with (first
          | (go_at_call 29; refine (HN.out _ (HT.out _)).mono ?_; rintro e w1 ⟨rfl, hb⟩; obtain ⟨c0, c1, c2, c3, c4⟩ := (PC.new w kd _ _ _ q 30).below hb; have HB1 := Lib.hid ((HB.out _).trans (hb.mono (HB.out _).size)); clear hb)
          | (go_at_call 94; refine (HO.out _).mono ?_; rintro e w2 ⟨rfl, rfl⟩))
          go_ret
          exact ⟨ret_bool HVc.out.symm, HB1.out⟩
      · skip
        by_cases h3 : op = [58, 45]
        · have HVc := Lib.hid (show R = (if N || O then false else false) from by rw [HV.out, if_neg h0, if_neg h1, if_neg h2, if_pos h3])
          obtain ⟨o, ho⟩ : ∃ o, T op = o := ⟨_, rfl⟩
          have b0 : o.toList.isEmpty = false := by rw [← ho, Lib.toList_data]; exact nil_ne h0
          have b1 : (o.toList == [35]) = false := by rw [← ho, Lib.toList_data]; exact list_ne h1
          have b2 : (o.toList == [58, 61]) = false := by rw [← ho, Lib.toList_data]; exact list_ne h2
          have b3 : (o.toList == [58, 45]) = true := by rw [← ho, Lib.toList_data]; exact (by rw [h3]; rfl)
          rw [ho]
          clear ho h0 h1 h2 h3 HV
          cases N <;> cases O
          all_goals
            go_enter Tryd.func88, Tryd.ntmps88
            go_wp2_with (first
          | (go_at_call 29; refine (HN.out _ (HT.out _)).mono ?_; rintro e w1 ⟨rfl, hb⟩; obtain ⟨c0, c1, c2, c3, c4⟩ := (PC.new w kd _ _ _ q 30).below hb; have HB1 := Lib.hid ((HB.out _).trans (hb.mono (HB.out _).size)); clear hb)
          | (go_at_call 94; refine (HO.out _).mono ?_; rintro e w2 ⟨rfl, rfl⟩))
            go_ret
            exact ⟨ret_bool HVc.out.symm, HB1.out⟩
        · skip
          by_cases h4 : op = [58, 43]
          · have HVc := Lib.hid (show R = (if N || O then false else false) from by rw [HV.out, if_neg h0, if_neg h1, if_neg h2, if_neg h3, if_pos h4])
            obtain ⟨o, ho⟩ : ∃ o, T op = o := ⟨_, rfl⟩
            have b0 : o.toList.isEmpty = false := by rw [← ho, Lib.toList_data]; exact nil_ne h0
            have b1 : (o.toList == [35]) = false := by rw [← ho, Lib.toList_data]; exact list_ne h1
            have b2 : (o.toList == [58, 61]) = false := by rw [← ho, Lib.toList_data]; exact list_ne h2
            have b3 : (o.toList == [58, 45]) = false := by rw [← ho, Lib.toList_data]; exact list_ne h3
            have b4 : (o.toList == [58, 43]) = true := by rw [← ho, Lib.toList_data]; exact (by rw [h4]; rfl)
            rw [ho]
            clear ho h0 h1 h2 h3 h4 HV
            cases N <;> cases O
            all_goals
              go_enter Tryd.func88, Tryd.ntmps88
              go_wp2_with (first
          | (go_at_call 29; refine (HN.out _ (HT.out _)).mono ?_; rintro e w1 ⟨rfl, hb⟩; obtain ⟨c0, c1, c2, c3, c4⟩ := (PC.new w kd _ _ _ q 30).below hb; have HB1 := Lib.hid ((HB.out _).trans (hb.mono (HB.out _).size)); clear hb)
          | (go_at_call 94; refine (HO.out _).mono ?_; rintro e w2 ⟨rfl, rfl⟩))
              go_ret
              exact ⟨ret_bool HVc.out.symm, HB1.out⟩
          · have HVc := Lib.hid (show R = (if N || O then false else false) from by rw [HV.out, if_neg h0, if_neg h1, if_neg h2, if_neg h3, if_neg h4])
            obtain ⟨o, ho⟩ : ∃ o, T op = o := ⟨_, rfl⟩
            have b0 : o.toList.isEmpty = false := by rw [← ho, Lib.toList_data]; exact nil_ne h0
            have b1 : (o.toList == [35]) = false := by rw [← ho, Lib.toList_data]; exact list_ne h1
            have b2 : (o.toList == [58, 61]) = false := by rw [← ho, Lib.toList_data]; exact list_ne h2
            have b3 : (o.toList == [58, 45]) = false := by rw [← ho, Lib.toList_data]; exact list_ne h3
            have b4 : (o.toList == [58, 43]) = false := by rw [← ho, Lib.toList_data]; exact list_ne h4
            rw [ho]
            clear ho h0 h1 h2 h3 h4 HV
            cases N <;> cases O
            all_goals
              go_enter Tryd.func88, Tryd.ntmps88
              go_wp2_with (first
          | (go_at_call 29; refine (HN.out _ (HT.out _)).mono ?_; rintro e w1 ⟨rfl, hb⟩; obtain ⟨c0, c1, c2, c3, c4⟩ := (PC.new w kd _ _ _ q 30).below hb; have HB1 := Lib.hid ((HB.out _).trans (hb.mono (HB.out _).size)); clear hb)
          | (go_at_call 94; refine (HO.out _).mono ?_; rintro e w2 ⟨rfl, rfl⟩))
              go_ret
              exact ⟨ret_bool HVc.out.symm, HB1.out⟩
end Go.Proofs.YtloaalapkmbgeaaDoor
