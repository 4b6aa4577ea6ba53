/-
  Proved: a contract of tree's part. Conditions: tree's row answers for a Var's Word.
-/
import Derived.Test.YtloaalapkmbgeaaDoorTreeVar
namespace Go.Proofs.YtloaalapkmbgeaaDoor
open Go Go.RowKit GlyphMath LexMath TreeMath

set_option maxHeartbeats 2000000 in
set_option maxRecDepth 100000 in
theorem tpart_any {k d : Nat} (hd : d ≤ 20) (hR : RowDo k (d + 1)) (p : Pt) (u : Value) (w : World) (hu : PsAt w u p.word) (hw : Small p.word) (hs : p.text.length ≤ 1048576) :
    Calls Tryd.prog 35 #[partV p u, .int .i64 (d : Int)] w fun e w' => e = .returned (.bool (partT (rowT k) (decide (0 < d)) p)) ∧ Below w.heap.size w w' := by
  have HVR := Lib.hid (fun W (hb : Below w.heap.size w W) => variable_any hd hR p u W (hu.stays hb) hw)
  have HLT := Lib.hid (fun W => letters_any p u d W hs)
  have HRK := Lib.hid (fun W => reckoning_any (T p.text) W hs)
  obtain ⟨a, c, rfl, hlen, -⟩ := hu.is
  obtain ⟨kd, tx, op, wd, q⟩ := p
  have HB := Lib.hid (fun o => below_one w o)
  have hE := empty_len wd
  obtain ⟨R, hRR⟩ : ∃ R, partT (rowT k) (decide (0 < d)) ⟨kd, tx, op, wd, q⟩ = R := ⟨_, rfl⟩
  obtain ⟨V1, hV1⟩ : ∃ R, varT (rowT k) ⟨kd, tx, op, wd, q⟩ = R := ⟨_, rfl⟩
  obtain ⟨V2, hV2⟩ : ∃ R, litT (decide (0 < d)) ⟨kd, tx, op, wd, q⟩ = R := ⟨_, rfl⟩
  obtain ⟨V3, hV3⟩ : ∃ R, arithT tx 0 = R := ⟨_, rfl⟩
  obtain ⟨E, hEE⟩ : ∃ E, wd.isEmpty = E := ⟨_, rfl⟩
  obtain ⟨O, hOO⟩ : ∃ E, op.isEmpty = E := ⟨_, rfl⟩
  obtain ⟨o, ho⟩ : ∃ o, T op = o := ⟨_, rfl⟩
  have b0 : o.toList.isEmpty = O := by rw [← ho, Lib.toList_data]; exact hOO
  have HV := Lib.hid (show R = (if kd = 1 then O && (E && V2) else if kd = 2 then V1 else if kd = 3 then O && (E && V3) else false) from by
    rw [← hRR, ← hV1, ← hV2, ← hV3, ← hEE, ← hOO]; rfl)
  obtain ⟨L, hL⟩ : ∃ L, wd.length = L := ⟨_, rfl⟩
  obtain ⟨s, hss⟩ : ∃ s, T tx = s := ⟨_, rfl⟩
  rw [hEE] at hE
  rw [hRR]
  simp only at HVR HLT HRK
  rw [hV1] at HVR
  rw [hV2] at HLT
  rw [hV3, hss] at HRK
  have HVR := Lib.hid (show ∀ W, Below w.heap.size w W → Calls Tryd.prog 65 #[.agg #[.int .i64 kd, .string s, .string o, .slice a L c, .bool q], .int .i64 (d : Int)] W fun e w' => e = .returned (.bool V1) ∧ Below W.heap.size W w' from by rw [← hss, ← ho, ← hL]; exact HVR.out)
  have HLT := Lib.hid (show ∀ W, Calls Tryd.prog 64 #[.agg #[.int .i64 kd, .string s, .string o, .slice a L c, .bool q], .int .i64 (d : Int)] W fun e w' => e = .returned (.bool V2) ∧ Below W.heap.size W w' from by rw [← hss, ← ho, ← hL]; exact HLT.out)
  show Calls _ _ #[.agg #[.int .i64 kd, .string (T tx), .string (T op), .slice a wd.length c, .bool q], _] _ _
  rw [hss, ho, hL]
  rw [hL] at hE
  clear hV1 hV2 hV3 hEE hOO hRR hu hw hlen hs hR hd hss ho hL
  by_cases h1 : kd = 1
  · subst h1
    have HVc := Lib.hid (show R = (O && (E && V2)) from HV.out)
    clear HV
    cases O <;> cases E
    all_goals
      go_enter Tryd.func35, Tryd.ntmps35
      go_wp2_with (go_at_call 64; refine (HLT.out _).mono ?_; rintro e w1 ⟨rfl, hb⟩; have HB1 := Lib.hid ((HB.out _).trans (hb.mono (HB.out _).size)); clear hb)
      go_ret
      first | exact ⟨ret_bool HVc.out.symm, HB1.out⟩ | exact ⟨ret_bool HVc.out.symm, HB.out _⟩
  · have k1 := int_ne h1
    by_cases h2 : kd = 2
    · subst h2
      have HVc := Lib.hid (show R = V1 from HV.out)
      clear HV k1 h1
      go_enter Tryd.func35, Tryd.ntmps35
      go_wp2_with (go_at_call 65; refine (HVR.out _ (HB.out _)).mono ?_; rintro e w1 ⟨rfl, hb⟩; have HB1 := Lib.hid ((HB.out _).trans (hb.mono (HB.out _).size)); clear hb)
      go_ret
      exact ⟨ret_bool HVc.out.symm, HB1.out⟩
    · have k2 := int_ne h2
      by_cases h3 : kd = 3
      · subst h3
        have HVc := Lib.hid (show R = (O && (E && V3)) from HV.out)
        clear HV k1 h1 k2 h2
        cases O <;> cases E
        all_goals
          go_enter Tryd.func35, Tryd.ntmps35
          go_wp2_with (go_at_call 66; refine (HRK.out _).mono ?_; rintro e w1 ⟨rfl, hb⟩; have HB1 := Lib.hid ((HB.out _).trans (hb.mono (HB.out _).size)); clear hb)
          go_ret
          first | exact ⟨ret_bool HVc.out.symm, HB1.out⟩ | exact ⟨ret_bool HVc.out.symm, HB.out _⟩
      · have k3 := int_ne h3
        have HVc := Lib.hid (show R = false from by rw [HV.out, if_neg h1, if_neg h2, if_neg h3])
        clear HV h1 h2 h3
        go_enter Tryd.func35, Tryd.ntmps35
        go_wp2_with fail
        go_ret
        exact ⟨ret_bool HVc.out.symm, HB.out _⟩
end Go.Proofs.YtloaalapkmbgeaaDoor
