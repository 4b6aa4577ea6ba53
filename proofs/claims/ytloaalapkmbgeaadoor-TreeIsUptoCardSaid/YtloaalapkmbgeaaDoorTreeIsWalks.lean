/-
  Proved: texts joined: Proved: what the statements' own one answers of a node (if, for, fun, other). Conditions: as it says.
  Proved: what the statements' own one answers of a node (case). Conditions: as it says.
  Proved: plain facts on scripts: the statements' own way to tell a script (every node by itself, then a walk) tells the same as the program's. Conditions: as each says.
  Proved: plain facts on a node: what the program's shapes and words say of it is what the statements' own one says, Op by Op. Conditions: rows of at most 2^62.
  Proved: contracts of the statements' own has and kid. Conditions: none.
  Proved: contracts of the statements' own walk and Is. Conditions: the nodes lie in memory; texts of at most 2^20 bytes; the library's tables lie as they should.
  Proved: contracts of the statements' own one and Is. Conditions: the nodes lie in memory; texts and rows are of at most 2^20; the library's tables lie as they should.
  Proved: a contract of the statements' own Is. Conditions: the nodes lie in memory; texts and rows are of at most 2^20; the library's tables lie as they should.
  Proved: the walk of the law TreeIs: it answers true and changes nothing that was there. Conditions: the nodes lie in memory; texts and rows are of at most 2^20; the listed variables lie as they should.
-/
import Derived.Test.YtloaalapkmbgeaaDoorTreeIsOnes
import Derived.Test.YtloaalapkmbgeaaDoorTreeMath
import Derived.Test.YtloaalapkmbgeaaDoorTreeRRedirs
import Derived.Test.YtloaalapkmbgeaaDoorTreeKnown
import Derived.Deep.RegionWith
namespace Go.Proofs.YtloaalapkmbgeaaDoor
open Go Go.RowKit GlyphMath LexMath TreeMath

set_option maxHeartbeats 16000000 in
set_option maxRecDepth 100000 in
theorem rone_if {w : World} {o x : ByteArray} {kp wp pp ap rp : Option Addr} {KL WL PL AL RL kc wc pc ac rc : Nat} {RD CM N RS WA PT EA EP EN EW : Bool} (ho : o.toList = [105, 102]) (h : OneC w o x kp wp pp ap rp KL WL PL AL RL kc wc pc ac rc RD CM N RS WA PT)
    (hA : decide ((0 : Int) < (AL : Int)) = !EA) (hP : decide ((0 : Int) < (PL : Int)) = !EP) (hW : decide ((0 : Int) < (WL : Int)) = !EW) (hN : x.toList.isEmpty = EN) :
    Calls Tryd.prog 16 #[.agg #[.string o, .string x, .slice kp KL kc, .slice wp WL wc, .slice pp PL pc, .slice ap AL ac, .slice rp RL rc]] w fun e w' => e = .returned (.bool (RD && (EA && (EP && (EN && (EW && (((KL : Int) == 2) || ((KL : Int) == 3)))))))) ∧ Below w.heap.size w w' := by
  have q0 : (o.toList == [99, 109, 100]) = false := by rw [ho]; decide
  have q1 : (o.toList == [115, 101, 113]) = false := by rw [ho]; decide
  have q2 : (o.toList == [97, 110, 100]) = false := by rw [ho]; decide
  have q3 : (o.toList == [111, 114]) = false := by rw [ho]; decide
  have q4 : (o.toList == [110, 111, 116]) = false := by rw [ho]; decide
  have q5 : (o.toList == [112, 105, 112, 101]) = false := by rw [ho]; decide
  have q6 : (o.toList == [105, 102]) = true := by rw [ho]; decide
  have q7 : (o.toList == [119, 104, 105, 108, 101]) = false := by rw [ho]; decide
  have q8 : (o.toList == [117, 110, 116, 105, 108]) = false := by rw [ho]; decide
  have q9 : (o.toList == [102, 111, 114]) = false := by rw [ho]; decide
  have q10 : (o.toList == [99, 97, 115, 101]) = false := by rw [ho]; decide
  have q11 : (o.toList == [102, 117, 110]) = false := by rw [ho]; decide
  have q12 : (o.toList == [103, 114, 111, 117, 112]) = false := by rw [ho]; decide
  have q13 : (o.toList == [115, 117, 98]) = false := by rw [ho]; decide
  have HH := Lib.hid h
  have HA := Lib.hid (node_all w o x (.slice kp KL kc) (.slice wp WL wc) (.slice pp PL pc) (.slice ap AL ac) (.slice rp RL rc) 49)
  have HBX := Lib.hid (fun o => below_one w o)
  clear h ho
  cases RD with
  | false =>
    go_enter Tryd.func16, Tryd.ntmps16
    go_wp2_with fail
    obtain ⟨v, hv⟩ : ∃ v, w.alloc (.cells #[.string o, .string x, .slice kp KL kc, .slice wp WL wc, .slice pp PL pc, .slice ap AL ac, .slice rp RL rc] 49) = v := ⟨_, rfl⟩
    have HV := Lib.hid (show Below w.heap.size w v by rw [← hv]; exact HBX.out _)
    have HA := Lib.hid (show ∀ W, Below v.heap.size v W → _ from by rw [← hv]; exact HA.out)
    rw [hv]
    clear hv
    refine (HH.out.rd _ HV.out).mono ?_
    rintro e w1 ⟨rfl, hb⟩
    have HQ1 := Lib.hid hb
    obtain ⟨n0, n1, n2, n3, n4, n5, n6⟩ := HA.out w1 HQ1.out
    clear hb
    go_wp2_with fail
    go_ret
    exact ⟨ret_bool rfl, HV.out.trans (HQ1.out.mono HV.out.size)⟩
  | true =>
    cases EA with
    | false =>
      replace hA : (0 : Int) < (AL : Int) := of_decide_eq_true hA
      go_enter Tryd.func16, Tryd.ntmps16
      go_wp2_with fail
      obtain ⟨v, hv⟩ : ∃ v, w.alloc (.cells #[.string o, .string x, .slice kp KL kc, .slice wp WL wc, .slice pp PL pc, .slice ap AL ac, .slice rp RL rc] 49) = v := ⟨_, rfl⟩
      have HV := Lib.hid (show Below w.heap.size w v by rw [← hv]; exact HBX.out _)
      have HA := Lib.hid (show ∀ W, Below v.heap.size v W → _ from by rw [← hv]; exact HA.out)
      rw [hv]
      clear hv
      refine (HH.out.rd _ HV.out).mono ?_
      rintro e w1 ⟨rfl, hb⟩
      have HQ1 := Lib.hid hb
      obtain ⟨n0, n1, n2, n3, n4, n5, n6⟩ := HA.out w1 HQ1.out
      clear hb
      go_wp2_with fail
      go_ret
      exact ⟨ret_bool rfl, HV.out.trans (HQ1.out.mono HV.out.size)⟩
    | true =>
      replace hA : ¬ (0 : Int) < (AL : Int) := of_decide_eq_false hA
      cases EP with
      | false =>
        replace hP : (0 : Int) < (PL : Int) := of_decide_eq_true hP
        go_enter Tryd.func16, Tryd.ntmps16
        go_wp2_with fail
        obtain ⟨v, hv⟩ : ∃ v, w.alloc (.cells #[.string o, .string x, .slice kp KL kc, .slice wp WL wc, .slice pp PL pc, .slice ap AL ac, .slice rp RL rc] 49) = v := ⟨_, rfl⟩
        have HV := Lib.hid (show Below w.heap.size w v by rw [← hv]; exact HBX.out _)
        have HA := Lib.hid (show ∀ W, Below v.heap.size v W → _ from by rw [← hv]; exact HA.out)
        rw [hv]
        clear hv
        refine (HH.out.rd _ HV.out).mono ?_
        rintro e w1 ⟨rfl, hb⟩
        have HQ1 := Lib.hid hb
        obtain ⟨n0, n1, n2, n3, n4, n5, n6⟩ := HA.out w1 HQ1.out
        clear hb
        go_wp2_with fail
        go_ret
        exact ⟨ret_bool rfl, HV.out.trans (HQ1.out.mono HV.out.size)⟩
      | true =>
        replace hP : ¬ (0 : Int) < (PL : Int) := of_decide_eq_false hP
        cases EN with
        | false =>
          go_enter Tryd.func16, Tryd.ntmps16
          go_wp2_with fail
          obtain ⟨v, hv⟩ : ∃ v, w.alloc (.cells #[.string o, .string x, .slice kp KL kc, .slice wp WL wc, .slice pp PL pc, .slice ap AL ac, .slice rp RL rc] 49) = v := ⟨_, rfl⟩
          have HV := Lib.hid (show Below w.heap.size w v by rw [← hv]; exact HBX.out _)
          have HA := Lib.hid (show ∀ W, Below v.heap.size v W → _ from by rw [← hv]; exact HA.out)
          rw [hv]
          clear hv
          refine (HH.out.rd _ HV.out).mono ?_
          rintro e w1 ⟨rfl, hb⟩
          have HQ1 := Lib.hid hb
          obtain ⟨n0, n1, n2, n3, n4, n5, n6⟩ := HA.out w1 HQ1.out
          clear hb
          go_wp2_with fail
          go_ret
          exact ⟨ret_bool rfl, HV.out.trans (HQ1.out.mono HV.out.size)⟩
        | true =>
          cases EW with
          | false =>
            replace hW : (0 : Int) < (WL : Int) := of_decide_eq_true hW
            go_enter Tryd.func16, Tryd.ntmps16
            go_wp2_with fail
            obtain ⟨v, hv⟩ : ∃ v, w.alloc (.cells #[.string o, .string x, .slice kp KL kc, .slice wp WL wc, .slice pp PL pc, .slice ap AL ac, .slice rp RL rc] 49) = v := ⟨_, rfl⟩
            have HV := Lib.hid (show Below w.heap.size w v by rw [← hv]; exact HBX.out _)
            have HA := Lib.hid (show ∀ W, Below v.heap.size v W → _ from by rw [← hv]; exact HA.out)
            rw [hv]
            clear hv
            refine (HH.out.rd _ HV.out).mono ?_
            rintro e w1 ⟨rfl, hb⟩
            have HQ1 := Lib.hid hb
            obtain ⟨n0, n1, n2, n3, n4, n5, n6⟩ := HA.out w1 HQ1.out
            clear hb
            go_wp2_with fail
            go_ret
            exact ⟨ret_bool rfl, HV.out.trans (HQ1.out.mono HV.out.size)⟩
          | true =>
            replace hW : ¬ (0 : Int) < (WL : Int) := of_decide_eq_false hW
            obtain ⟨K, hK⟩ : ∃ K, ((KL : Int) == 2) = K := ⟨_, rfl⟩
            obtain ⟨K3, hK3⟩ : ∃ K, ((KL : Int) == 3) = K := ⟨_, rfl⟩
            rw [hK, hK3]
            cases K with
            | false =>
              go_enter Tryd.func16, Tryd.ntmps16
              go_wp2_with fail
              obtain ⟨v, hv⟩ : ∃ v, w.alloc (.cells #[.string o, .string x, .slice kp KL kc, .slice wp WL wc, .slice pp PL pc, .slice ap AL ac, .slice rp RL rc] 49) = v := ⟨_, rfl⟩
              have HV := Lib.hid (show Below w.heap.size w v by rw [← hv]; exact HBX.out _)
              have HA := Lib.hid (show ∀ W, Below v.heap.size v W → _ from by rw [← hv]; exact HA.out)
              rw [hv]
              clear hv
              refine (HH.out.rd _ HV.out).mono ?_
              rintro e w1 ⟨rfl, hb⟩
              have HQ1 := Lib.hid hb
              obtain ⟨n0, n1, n2, n3, n4, n5, n6⟩ := HA.out w1 HQ1.out
              clear hb
              go_wp2_with fail
              go_ret
              exact ⟨ret_bool rfl, HV.out.trans (HQ1.out.mono HV.out.size)⟩
            | true =>
              go_enter Tryd.func16, Tryd.ntmps16
              go_wp2_with fail
              obtain ⟨v, hv⟩ : ∃ v, w.alloc (.cells #[.string o, .string x, .slice kp KL kc, .slice wp WL wc, .slice pp PL pc, .slice ap AL ac, .slice rp RL rc] 49) = v := ⟨_, rfl⟩
              have HV := Lib.hid (show Below w.heap.size w v by rw [← hv]; exact HBX.out _)
              have HA := Lib.hid (show ∀ W, Below v.heap.size v W → _ from by rw [← hv]; exact HA.out)
              rw [hv]
              clear hv
              refine (HH.out.rd _ HV.out).mono ?_
              rintro e w1 ⟨rfl, hb⟩
              have HQ1 := Lib.hid hb
              obtain ⟨n0, n1, n2, n3, n4, n5, n6⟩ := HA.out w1 HQ1.out
              clear hb
              go_wp2_with fail
              go_ret
              exact ⟨ret_bool rfl, HV.out.trans (HQ1.out.mono HV.out.size)⟩
set_option maxHeartbeats 16000000 in
set_option maxRecDepth 100000 in
theorem rone_for {w : World} {o x : ByteArray} {kp wp pp ap rp : Option Addr} {KL WL PL AL RL kc wc pc ac rc : Nat} {RD CM N RS WA PT EA EP EN EW : Bool} (ho : o.toList = [102, 111, 114]) (h : OneC w o x kp wp pp ap rp KL WL PL AL RL kc wc pc ac rc RD CM N RS WA PT)
    (hA : decide ((0 : Int) < (AL : Int)) = !EA) (hP : decide ((0 : Int) < (PL : Int)) = !EP) (_hW : decide ((0 : Int) < (WL : Int)) = !EW) (_hN : x.toList.isEmpty = EN) :
    Calls Tryd.prog 16 #[.agg #[.string o, .string x, .slice kp KL kc, .slice wp WL wc, .slice pp PL pc, .slice ap AL ac, .slice rp RL rc]] w fun e w' => e = .returned (.bool (RD && (EA && (EP && (((KL : Int) == 1) && (N && WA)))))) ∧ Below w.heap.size w w' := by
  have q0 : (o.toList == [99, 109, 100]) = false := by rw [ho]; decide
  have q1 : (o.toList == [115, 101, 113]) = false := by rw [ho]; decide
  have q2 : (o.toList == [97, 110, 100]) = false := by rw [ho]; decide
  have q3 : (o.toList == [111, 114]) = false := by rw [ho]; decide
  have q4 : (o.toList == [110, 111, 116]) = false := by rw [ho]; decide
  have q5 : (o.toList == [112, 105, 112, 101]) = false := by rw [ho]; decide
  have q6 : (o.toList == [105, 102]) = false := by rw [ho]; decide
  have q7 : (o.toList == [119, 104, 105, 108, 101]) = false := by rw [ho]; decide
  have q8 : (o.toList == [117, 110, 116, 105, 108]) = false := by rw [ho]; decide
  have q9 : (o.toList == [102, 111, 114]) = true := by rw [ho]; decide
  have q10 : (o.toList == [99, 97, 115, 101]) = false := by rw [ho]; decide
  have q11 : (o.toList == [102, 117, 110]) = false := by rw [ho]; decide
  have q12 : (o.toList == [103, 114, 111, 117, 112]) = false := by rw [ho]; decide
  have q13 : (o.toList == [115, 117, 98]) = false := by rw [ho]; decide
  have HH := Lib.hid h
  have HA := Lib.hid (node_all w o x (.slice kp KL kc) (.slice wp WL wc) (.slice pp PL pc) (.slice ap AL ac) (.slice rp RL rc) 49)
  have HBX := Lib.hid (fun o => below_one w o)
  clear h ho
  cases RD with
  | false =>
    go_enter Tryd.func16, Tryd.ntmps16
    go_wp2_with fail
    obtain ⟨v, hv⟩ : ∃ v, w.alloc (.cells #[.string o, .string x, .slice kp KL kc, .slice wp WL wc, .slice pp PL pc, .slice ap AL ac, .slice rp RL rc] 49) = v := ⟨_, rfl⟩
    have HV := Lib.hid (show Below w.heap.size w v by rw [← hv]; exact HBX.out _)
    have HA := Lib.hid (show ∀ W, Below v.heap.size v W → _ from by rw [← hv]; exact HA.out)
    rw [hv]
    clear hv
    refine (HH.out.rd _ HV.out).mono ?_
    rintro e w1 ⟨rfl, hb⟩
    have HQ1 := Lib.hid hb
    obtain ⟨n0, n1, n2, n3, n4, n5, n6⟩ := HA.out w1 HQ1.out
    clear hb
    go_wp2_with fail
    go_ret
    exact ⟨ret_bool rfl, HV.out.trans (HQ1.out.mono HV.out.size)⟩
  | true =>
    cases EA with
    | false =>
      replace hA : (0 : Int) < (AL : Int) := of_decide_eq_true hA
      go_enter Tryd.func16, Tryd.ntmps16
      go_wp2_with fail
      obtain ⟨v, hv⟩ : ∃ v, w.alloc (.cells #[.string o, .string x, .slice kp KL kc, .slice wp WL wc, .slice pp PL pc, .slice ap AL ac, .slice rp RL rc] 49) = v := ⟨_, rfl⟩
      have HV := Lib.hid (show Below w.heap.size w v by rw [← hv]; exact HBX.out _)
      have HA := Lib.hid (show ∀ W, Below v.heap.size v W → _ from by rw [← hv]; exact HA.out)
      rw [hv]
      clear hv
      refine (HH.out.rd _ HV.out).mono ?_
      rintro e w1 ⟨rfl, hb⟩
      have HQ1 := Lib.hid hb
      obtain ⟨n0, n1, n2, n3, n4, n5, n6⟩ := HA.out w1 HQ1.out
      clear hb
      go_wp2_with fail
      go_ret
      exact ⟨ret_bool rfl, HV.out.trans (HQ1.out.mono HV.out.size)⟩
    | true =>
      replace hA : ¬ (0 : Int) < (AL : Int) := of_decide_eq_false hA
      cases EP with
      | false =>
        replace hP : (0 : Int) < (PL : Int) := of_decide_eq_true hP
        go_enter Tryd.func16, Tryd.ntmps16
        go_wp2_with fail
        obtain ⟨v, hv⟩ : ∃ v, w.alloc (.cells #[.string o, .string x, .slice kp KL kc, .slice wp WL wc, .slice pp PL pc, .slice ap AL ac, .slice rp RL rc] 49) = v := ⟨_, rfl⟩
        have HV := Lib.hid (show Below w.heap.size w v by rw [← hv]; exact HBX.out _)
        have HA := Lib.hid (show ∀ W, Below v.heap.size v W → _ from by rw [← hv]; exact HA.out)
        rw [hv]
        clear hv
        refine (HH.out.rd _ HV.out).mono ?_
        rintro e w1 ⟨rfl, hb⟩
        have HQ1 := Lib.hid hb
        obtain ⟨n0, n1, n2, n3, n4, n5, n6⟩ := HA.out w1 HQ1.out
        clear hb
        go_wp2_with fail
        go_ret
        exact ⟨ret_bool rfl, HV.out.trans (HQ1.out.mono HV.out.size)⟩
      | true =>
        replace hP : ¬ (0 : Int) < (PL : Int) := of_decide_eq_false hP
        obtain ⟨K, hK⟩ : ∃ K, ((KL : Int) == 1) = K := ⟨_, rfl⟩
        rw [hK]
        cases K with
        | false =>
          go_enter Tryd.func16, Tryd.ntmps16
          go_wp2_with fail
          obtain ⟨v, hv⟩ : ∃ v, w.alloc (.cells #[.string o, .string x, .slice kp KL kc, .slice wp WL wc, .slice pp PL pc, .slice ap AL ac, .slice rp RL rc] 49) = v := ⟨_, rfl⟩
          have HV := Lib.hid (show Below w.heap.size w v by rw [← hv]; exact HBX.out _)
          have HA := Lib.hid (show ∀ W, Below v.heap.size v W → _ from by rw [← hv]; exact HA.out)
          rw [hv]
          clear hv
          refine (HH.out.rd _ HV.out).mono ?_
          rintro e w1 ⟨rfl, hb⟩
          have HQ1 := Lib.hid hb
          obtain ⟨n0, n1, n2, n3, n4, n5, n6⟩ := HA.out w1 HQ1.out
          clear hb
          go_wp2_with fail
          go_ret
          exact ⟨ret_bool rfl, HV.out.trans (HQ1.out.mono HV.out.size)⟩
        | true =>
          cases N with
          | false =>
            go_enter Tryd.func16, Tryd.ntmps16
            go_wp2_with fail
            obtain ⟨v, hv⟩ : ∃ v, w.alloc (.cells #[.string o, .string x, .slice kp KL kc, .slice wp WL wc, .slice pp PL pc, .slice ap AL ac, .slice rp RL rc] 49) = v := ⟨_, rfl⟩
            have HV := Lib.hid (show Below w.heap.size w v by rw [← hv]; exact HBX.out _)
            have HA := Lib.hid (show ∀ W, Below v.heap.size v W → _ from by rw [← hv]; exact HA.out)
            rw [hv]
            clear hv
            refine (HH.out.rd _ HV.out).mono ?_
            rintro e w1 ⟨rfl, hb⟩
            have HQ1 := Lib.hid hb
            obtain ⟨n0, n1, n2, n3, n4, n5, n6⟩ := HA.out w1 HQ1.out
            clear hb
            go_wp2_with (first
              | (go_at_call 29; refine (HH.out.nm _ (HV.out.trans (HQ1.out.mono HV.out.size))).mono ?_; rintro e w2 ⟨rfl, hb⟩; have HQ2 := Lib.hid (HQ1.out.trans (hb.mono HQ1.out.size)); obtain ⟨n0, n1, n2, n3, n4, n5, n6⟩ := HA.out w2 HQ2.out; clear hb))
            go_ret
            exact ⟨ret_bool rfl, HV.out.trans (HQ2.out.mono HV.out.size)⟩
          | true =>
            go_enter Tryd.func16, Tryd.ntmps16
            go_wp2_with fail
            obtain ⟨v, hv⟩ : ∃ v, w.alloc (.cells #[.string o, .string x, .slice kp KL kc, .slice wp WL wc, .slice pp PL pc, .slice ap AL ac, .slice rp RL rc] 49) = v := ⟨_, rfl⟩
            have HV := Lib.hid (show Below w.heap.size w v by rw [← hv]; exact HBX.out _)
            have HA := Lib.hid (show ∀ W, Below v.heap.size v W → _ from by rw [← hv]; exact HA.out)
            rw [hv]
            clear hv
            refine (HH.out.rd _ HV.out).mono ?_
            rintro e w1 ⟨rfl, hb⟩
            have HQ1 := Lib.hid hb
            obtain ⟨n0, n1, n2, n3, n4, n5, n6⟩ := HA.out w1 HQ1.out
            clear hb
            go_wp2_with (first
              | (go_at_call 29; refine (HH.out.nm _ (HV.out.trans (HQ1.out.mono HV.out.size))).mono ?_; rintro e w2 ⟨rfl, hb⟩; have HQ2 := Lib.hid (HQ1.out.trans (hb.mono HQ1.out.size)); obtain ⟨n0, n1, n2, n3, n4, n5, n6⟩ := HA.out w2 HQ2.out; clear hb)
              | (go_at_call 30; refine (HH.out.op _ (HV.out.trans (HQ2.out.mono HV.out.size))).mono ?_; rintro e w3 ⟨rfl, hb⟩; have HQ3 := Lib.hid (HQ2.out.trans (hb.mono HQ2.out.size)); obtain ⟨n0, n1, n2, n3, n4, n5, n6⟩ := HA.out w3 HQ3.out; clear hb))
            go_ret
            exact ⟨ret_bool rfl, HV.out.trans (HQ3.out.mono HV.out.size)⟩
set_option maxHeartbeats 16000000 in
set_option maxRecDepth 100000 in
theorem rone_fun {w : World} {o x : ByteArray} {kp wp pp ap rp : Option Addr} {KL WL PL AL RL kc wc pc ac rc : Nat} {RD CM N RS WA PT EA EP EN EW : Bool} (ho : o.toList = [102, 117, 110]) (h : OneC w o x kp wp pp ap rp KL WL PL AL RL kc wc pc ac rc RD CM N RS WA PT)
    (hA : decide ((0 : Int) < (AL : Int)) = !EA) (hP : decide ((0 : Int) < (PL : Int)) = !EP) (hW : decide ((0 : Int) < (WL : Int)) = !EW) (_hN : x.toList.isEmpty = EN) :
    Calls Tryd.prog 16 #[.agg #[.string o, .string x, .slice kp KL kc, .slice wp WL wc, .slice pp PL pc, .slice ap AL ac, .slice rp RL rc]] w fun e w' => e = .returned (.bool (RD && (EA && (EP && (EW && (((KL : Int) == 1) && (N && !RS))))))) ∧ Below w.heap.size w w' := by
  have q0 : (o.toList == [99, 109, 100]) = false := by rw [ho]; decide
  have q1 : (o.toList == [115, 101, 113]) = false := by rw [ho]; decide
  have q2 : (o.toList == [97, 110, 100]) = false := by rw [ho]; decide
  have q3 : (o.toList == [111, 114]) = false := by rw [ho]; decide
  have q4 : (o.toList == [110, 111, 116]) = false := by rw [ho]; decide
  have q5 : (o.toList == [112, 105, 112, 101]) = false := by rw [ho]; decide
  have q6 : (o.toList == [105, 102]) = false := by rw [ho]; decide
  have q7 : (o.toList == [119, 104, 105, 108, 101]) = false := by rw [ho]; decide
  have q8 : (o.toList == [117, 110, 116, 105, 108]) = false := by rw [ho]; decide
  have q9 : (o.toList == [102, 111, 114]) = false := by rw [ho]; decide
  have q10 : (o.toList == [99, 97, 115, 101]) = false := by rw [ho]; decide
  have q11 : (o.toList == [102, 117, 110]) = true := by rw [ho]; decide
  have q12 : (o.toList == [103, 114, 111, 117, 112]) = false := by rw [ho]; decide
  have q13 : (o.toList == [115, 117, 98]) = false := by rw [ho]; decide
  have HH := Lib.hid h
  have HA := Lib.hid (node_all w o x (.slice kp KL kc) (.slice wp WL wc) (.slice pp PL pc) (.slice ap AL ac) (.slice rp RL rc) 49)
  have HBX := Lib.hid (fun o => below_one w o)
  clear h ho
  cases RD with
  | false =>
    go_enter Tryd.func16, Tryd.ntmps16
    go_wp2_with fail
    obtain ⟨v, hv⟩ : ∃ v, w.alloc (.cells #[.string o, .string x, .slice kp KL kc, .slice wp WL wc, .slice pp PL pc, .slice ap AL ac, .slice rp RL rc] 49) = v := ⟨_, rfl⟩
    have HV := Lib.hid (show Below w.heap.size w v by rw [← hv]; exact HBX.out _)
    have HA := Lib.hid (show ∀ W, Below v.heap.size v W → _ from by rw [← hv]; exact HA.out)
    rw [hv]
    clear hv
    refine (HH.out.rd _ HV.out).mono ?_
    rintro e w1 ⟨rfl, hb⟩
    have HQ1 := Lib.hid hb
    obtain ⟨n0, n1, n2, n3, n4, n5, n6⟩ := HA.out w1 HQ1.out
    clear hb
    go_wp2_with fail
    go_ret
    exact ⟨ret_bool rfl, HV.out.trans (HQ1.out.mono HV.out.size)⟩
  | true =>
    cases EA with
    | false =>
      replace hA : (0 : Int) < (AL : Int) := of_decide_eq_true hA
      go_enter Tryd.func16, Tryd.ntmps16
      go_wp2_with fail
      obtain ⟨v, hv⟩ : ∃ v, w.alloc (.cells #[.string o, .string x, .slice kp KL kc, .slice wp WL wc, .slice pp PL pc, .slice ap AL ac, .slice rp RL rc] 49) = v := ⟨_, rfl⟩
      have HV := Lib.hid (show Below w.heap.size w v by rw [← hv]; exact HBX.out _)
      have HA := Lib.hid (show ∀ W, Below v.heap.size v W → _ from by rw [← hv]; exact HA.out)
      rw [hv]
      clear hv
      refine (HH.out.rd _ HV.out).mono ?_
      rintro e w1 ⟨rfl, hb⟩
      have HQ1 := Lib.hid hb
      obtain ⟨n0, n1, n2, n3, n4, n5, n6⟩ := HA.out w1 HQ1.out
      clear hb
      go_wp2_with fail
      go_ret
      exact ⟨ret_bool rfl, HV.out.trans (HQ1.out.mono HV.out.size)⟩
    | true =>
      replace hA : ¬ (0 : Int) < (AL : Int) := of_decide_eq_false hA
      cases EP with
      | false =>
        replace hP : (0 : Int) < (PL : Int) := of_decide_eq_true hP
        go_enter Tryd.func16, Tryd.ntmps16
        go_wp2_with fail
        obtain ⟨v, hv⟩ : ∃ v, w.alloc (.cells #[.string o, .string x, .slice kp KL kc, .slice wp WL wc, .slice pp PL pc, .slice ap AL ac, .slice rp RL rc] 49) = v := ⟨_, rfl⟩
        have HV := Lib.hid (show Below w.heap.size w v by rw [← hv]; exact HBX.out _)
        have HA := Lib.hid (show ∀ W, Below v.heap.size v W → _ from by rw [← hv]; exact HA.out)
        rw [hv]
        clear hv
        refine (HH.out.rd _ HV.out).mono ?_
        rintro e w1 ⟨rfl, hb⟩
        have HQ1 := Lib.hid hb
        obtain ⟨n0, n1, n2, n3, n4, n5, n6⟩ := HA.out w1 HQ1.out
        clear hb
        go_wp2_with fail
        go_ret
        exact ⟨ret_bool rfl, HV.out.trans (HQ1.out.mono HV.out.size)⟩
      | true =>
        replace hP : ¬ (0 : Int) < (PL : Int) := of_decide_eq_false hP
        cases EW with
        | false =>
          replace hW : (0 : Int) < (WL : Int) := of_decide_eq_true hW
          go_enter Tryd.func16, Tryd.ntmps16
          go_wp2_with fail
          obtain ⟨v, hv⟩ : ∃ v, w.alloc (.cells #[.string o, .string x, .slice kp KL kc, .slice wp WL wc, .slice pp PL pc, .slice ap AL ac, .slice rp RL rc] 49) = v := ⟨_, rfl⟩
          have HV := Lib.hid (show Below w.heap.size w v by rw [← hv]; exact HBX.out _)
          have HA := Lib.hid (show ∀ W, Below v.heap.size v W → _ from by rw [← hv]; exact HA.out)
          rw [hv]
          clear hv
          refine (HH.out.rd _ HV.out).mono ?_
          rintro e w1 ⟨rfl, hb⟩
          have HQ1 := Lib.hid hb
          obtain ⟨n0, n1, n2, n3, n4, n5, n6⟩ := HA.out w1 HQ1.out
          clear hb
          go_wp2_with fail
          go_ret
          exact ⟨ret_bool rfl, HV.out.trans (HQ1.out.mono HV.out.size)⟩
        | true =>
          replace hW : ¬ (0 : Int) < (WL : Int) := of_decide_eq_false hW
          obtain ⟨K, hK⟩ : ∃ K, ((KL : Int) == 1) = K := ⟨_, rfl⟩
          rw [hK]
          cases K with
          | false =>
            go_enter Tryd.func16, Tryd.ntmps16
            go_wp2_with fail
            obtain ⟨v, hv⟩ : ∃ v, w.alloc (.cells #[.string o, .string x, .slice kp KL kc, .slice wp WL wc, .slice pp PL pc, .slice ap AL ac, .slice rp RL rc] 49) = v := ⟨_, rfl⟩
            have HV := Lib.hid (show Below w.heap.size w v by rw [← hv]; exact HBX.out _)
            have HA := Lib.hid (show ∀ W, Below v.heap.size v W → _ from by rw [← hv]; exact HA.out)
            rw [hv]
            clear hv
            refine (HH.out.rd _ HV.out).mono ?_
            rintro e w1 ⟨rfl, hb⟩
            have HQ1 := Lib.hid hb
            obtain ⟨n0, n1, n2, n3, n4, n5, n6⟩ := HA.out w1 HQ1.out
            clear hb
            go_wp2_with fail
            go_ret
            exact ⟨ret_bool rfl, HV.out.trans (HQ1.out.mono HV.out.size)⟩
          | true =>
            cases N with
            | false =>
              go_enter Tryd.func16, Tryd.ntmps16
              go_wp2_with fail
              obtain ⟨v, hv⟩ : ∃ v, w.alloc (.cells #[.string o, .string x, .slice kp KL kc, .slice wp WL wc, .slice pp PL pc, .slice ap AL ac, .slice rp RL rc] 49) = v := ⟨_, rfl⟩
              have HV := Lib.hid (show Below w.heap.size w v by rw [← hv]; exact HBX.out _)
              have HA := Lib.hid (show ∀ W, Below v.heap.size v W → _ from by rw [← hv]; exact HA.out)
              rw [hv]
              clear hv
              refine (HH.out.rd _ HV.out).mono ?_
              rintro e w1 ⟨rfl, hb⟩
              have HQ1 := Lib.hid hb
              obtain ⟨n0, n1, n2, n3, n4, n5, n6⟩ := HA.out w1 HQ1.out
              clear hb
              go_wp2_with (first
                | (go_at_call 29; refine (HH.out.nm _ (HV.out.trans (HQ1.out.mono HV.out.size))).mono ?_; rintro e w2 ⟨rfl, hb⟩; have HQ2 := Lib.hid (HQ1.out.trans (hb.mono HQ1.out.size)); obtain ⟨n0, n1, n2, n3, n4, n5, n6⟩ := HA.out w2 HQ2.out; clear hb))
              go_ret
              exact ⟨ret_bool rfl, HV.out.trans (HQ2.out.mono HV.out.size)⟩
            | true =>
              go_enter Tryd.func16, Tryd.ntmps16
              go_wp2_with fail
              obtain ⟨v, hv⟩ : ∃ v, w.alloc (.cells #[.string o, .string x, .slice kp KL kc, .slice wp WL wc, .slice pp PL pc, .slice ap AL ac, .slice rp RL rc] 49) = v := ⟨_, rfl⟩
              have HV := Lib.hid (show Below w.heap.size w v by rw [← hv]; exact HBX.out _)
              have HA := Lib.hid (show ∀ W, Below v.heap.size v W → _ from by rw [← hv]; exact HA.out)
              rw [hv]
              clear hv
              refine (HH.out.rd _ HV.out).mono ?_
              rintro e w1 ⟨rfl, hb⟩
              have HQ1 := Lib.hid hb
              obtain ⟨n0, n1, n2, n3, n4, n5, n6⟩ := HA.out w1 HQ1.out
              clear hb
              go_wp2_with (first
                | (go_at_call 29; refine (HH.out.nm _ (HV.out.trans (HQ1.out.mono HV.out.size))).mono ?_; rintro e w2 ⟨rfl, hb⟩; have HQ2 := Lib.hid (HQ1.out.trans (hb.mono HQ1.out.size)); obtain ⟨n0, n1, n2, n3, n4, n5, n6⟩ := HA.out w2 HQ2.out; clear hb)
                | (go_at_call 12; refine (HH.out.rs _).mono ?_; rintro e w5 ⟨rfl, rfl⟩))
              go_ret
              exact ⟨ret_bool rfl, HV.out.trans (HQ2.out.mono HV.out.size)⟩
set_option maxHeartbeats 16000000 in
set_option maxRecDepth 100000 in
theorem rone_other {w : World} {o x : ByteArray} {kp wp pp ap rp : Option Addr} {KL WL PL AL RL kc wc pc ac rc : Nat} {RD CM N RS WA PT EA EP EN EW : Bool} (ho : opsL.contains o.toList = false) (h : OneC w o x kp wp pp ap rp KL WL PL AL RL kc wc pc ac rc RD CM N RS WA PT)
    (hA : decide ((0 : Int) < (AL : Int)) = !EA) (hP : decide ((0 : Int) < (PL : Int)) = !EP) (hW : decide ((0 : Int) < (WL : Int)) = !EW) (hN : x.toList.isEmpty = EN) :
    Calls Tryd.prog 16 #[.agg #[.string o, .string x, .slice kp KL kc, .slice wp WL wc, .slice pp PL pc, .slice ap AL ac, .slice rp RL rc]] w fun e w' => e = .returned (.bool false) ∧ Below w.heap.size w w' := by
  obtain ⟨q0, q1, q2, q3, q4, q5, q6, q7, q8, q9, q10, q11, q12, q13⟩ := ops_none ho
  have HH := Lib.hid h
  have HA := Lib.hid (node_all w o x (.slice kp KL kc) (.slice wp WL wc) (.slice pp PL pc) (.slice ap AL ac) (.slice rp RL rc) 49)
  have HBX := Lib.hid (fun o => below_one w o)
  clear h ho
  cases RD with
  | false =>
    go_enter Tryd.func16, Tryd.ntmps16
    go_wp2_with fail
    obtain ⟨v, hv⟩ : ∃ v, w.alloc (.cells #[.string o, .string x, .slice kp KL kc, .slice wp WL wc, .slice pp PL pc, .slice ap AL ac, .slice rp RL rc] 49) = v := ⟨_, rfl⟩
    have HV := Lib.hid (show Below w.heap.size w v by rw [← hv]; exact HBX.out _)
    have HA := Lib.hid (show ∀ W, Below v.heap.size v W → _ from by rw [← hv]; exact HA.out)
    rw [hv]
    clear hv
    refine (HH.out.rd _ HV.out).mono ?_
    rintro e w1 ⟨rfl, hb⟩
    have HQ1 := Lib.hid hb
    obtain ⟨n0, n1, n2, n3, n4, n5, n6⟩ := HA.out w1 HQ1.out
    clear hb
    go_wp2_with fail
    go_ret
    exact ⟨ret_bool rfl, HV.out.trans (HQ1.out.mono HV.out.size)⟩
  | true =>
    cases EA with
    | false =>
      replace hA : (0 : Int) < (AL : Int) := of_decide_eq_true hA
      go_enter Tryd.func16, Tryd.ntmps16
      go_wp2_with fail
      obtain ⟨v, hv⟩ : ∃ v, w.alloc (.cells #[.string o, .string x, .slice kp KL kc, .slice wp WL wc, .slice pp PL pc, .slice ap AL ac, .slice rp RL rc] 49) = v := ⟨_, rfl⟩
      have HV := Lib.hid (show Below w.heap.size w v by rw [← hv]; exact HBX.out _)
      have HA := Lib.hid (show ∀ W, Below v.heap.size v W → _ from by rw [← hv]; exact HA.out)
      rw [hv]
      clear hv
      refine (HH.out.rd _ HV.out).mono ?_
      rintro e w1 ⟨rfl, hb⟩
      have HQ1 := Lib.hid hb
      obtain ⟨n0, n1, n2, n3, n4, n5, n6⟩ := HA.out w1 HQ1.out
      clear hb
      go_wp2_with fail
      go_ret
      exact ⟨ret_bool rfl, HV.out.trans (HQ1.out.mono HV.out.size)⟩
    | true =>
      replace hA : ¬ (0 : Int) < (AL : Int) := of_decide_eq_false hA
      cases EP with
      | false =>
        replace hP : (0 : Int) < (PL : Int) := of_decide_eq_true hP
        go_enter Tryd.func16, Tryd.ntmps16
        go_wp2_with fail
        obtain ⟨v, hv⟩ : ∃ v, w.alloc (.cells #[.string o, .string x, .slice kp KL kc, .slice wp WL wc, .slice pp PL pc, .slice ap AL ac, .slice rp RL rc] 49) = v := ⟨_, rfl⟩
        have HV := Lib.hid (show Below w.heap.size w v by rw [← hv]; exact HBX.out _)
        have HA := Lib.hid (show ∀ W, Below v.heap.size v W → _ from by rw [← hv]; exact HA.out)
        rw [hv]
        clear hv
        refine (HH.out.rd _ HV.out).mono ?_
        rintro e w1 ⟨rfl, hb⟩
        have HQ1 := Lib.hid hb
        obtain ⟨n0, n1, n2, n3, n4, n5, n6⟩ := HA.out w1 HQ1.out
        clear hb
        go_wp2_with fail
        go_ret
        exact ⟨ret_bool rfl, HV.out.trans (HQ1.out.mono HV.out.size)⟩
      | true =>
        replace hP : ¬ (0 : Int) < (PL : Int) := of_decide_eq_false hP
        cases EN with
        | false =>
          go_enter Tryd.func16, Tryd.ntmps16
          go_wp2_with fail
          obtain ⟨v, hv⟩ : ∃ v, w.alloc (.cells #[.string o, .string x, .slice kp KL kc, .slice wp WL wc, .slice pp PL pc, .slice ap AL ac, .slice rp RL rc] 49) = v := ⟨_, rfl⟩
          have HV := Lib.hid (show Below w.heap.size w v by rw [← hv]; exact HBX.out _)
          have HA := Lib.hid (show ∀ W, Below v.heap.size v W → _ from by rw [← hv]; exact HA.out)
          rw [hv]
          clear hv
          refine (HH.out.rd _ HV.out).mono ?_
          rintro e w1 ⟨rfl, hb⟩
          have HQ1 := Lib.hid hb
          obtain ⟨n0, n1, n2, n3, n4, n5, n6⟩ := HA.out w1 HQ1.out
          clear hb
          go_wp2_with fail
          go_ret
          exact ⟨ret_bool rfl, HV.out.trans (HQ1.out.mono HV.out.size)⟩
        | true =>
          cases EW with
          | false =>
            replace hW : (0 : Int) < (WL : Int) := of_decide_eq_true hW
            go_enter Tryd.func16, Tryd.ntmps16
            go_wp2_with fail
            obtain ⟨v, hv⟩ : ∃ v, w.alloc (.cells #[.string o, .string x, .slice kp KL kc, .slice wp WL wc, .slice pp PL pc, .slice ap AL ac, .slice rp RL rc] 49) = v := ⟨_, rfl⟩
            have HV := Lib.hid (show Below w.heap.size w v by rw [← hv]; exact HBX.out _)
            have HA := Lib.hid (show ∀ W, Below v.heap.size v W → _ from by rw [← hv]; exact HA.out)
            rw [hv]
            clear hv
            refine (HH.out.rd _ HV.out).mono ?_
            rintro e w1 ⟨rfl, hb⟩
            have HQ1 := Lib.hid hb
            obtain ⟨n0, n1, n2, n3, n4, n5, n6⟩ := HA.out w1 HQ1.out
            clear hb
            go_wp2_with fail
            go_ret
            exact ⟨ret_bool rfl, HV.out.trans (HQ1.out.mono HV.out.size)⟩
          | true =>
            replace hW : ¬ (0 : Int) < (WL : Int) := of_decide_eq_false hW
            go_enter Tryd.func16, Tryd.ntmps16
            go_wp2_with fail
            obtain ⟨v, hv⟩ : ∃ v, w.alloc (.cells #[.string o, .string x, .slice kp KL kc, .slice wp WL wc, .slice pp PL pc, .slice ap AL ac, .slice rp RL rc] 49) = v := ⟨_, rfl⟩
            have HV := Lib.hid (show Below w.heap.size w v by rw [← hv]; exact HBX.out _)
            have HA := Lib.hid (show ∀ W, Below v.heap.size v W → _ from by rw [← hv]; exact HA.out)
            rw [hv]
            clear hv
            refine (HH.out.rd _ HV.out).mono ?_
            rintro e w1 ⟨rfl, hb⟩
            have HQ1 := Lib.hid hb
            obtain ⟨n0, n1, n2, n3, n4, n5, n6⟩ := HA.out w1 HQ1.out
            clear hb
            go_wp2_with fail
            go_ret
            exact ⟨ret_bool rfl, HV.out.trans (HQ1.out.mono HV.out.size)⟩
end Go.Proofs.YtloaalapkmbgeaaDoor

namespace Go.Proofs.YtloaalapkmbgeaaDoor
open Go Go.RowKit GlyphMath LexMath TreeMath

set_option maxHeartbeats 16000000 in
set_option maxRecDepth 100000 in
theorem rone_case {w : World} {o x : ByteArray} {kp wp pp ap rp : Option Addr} {KL WL PL AL RL kc wc pc ac rc : Nat} {RD CM N RS WA PT EA EP EN EW : Bool} (ho : o.toList = [99, 97, 115, 101]) (h : OneC w o x kp wp pp ap rp KL WL PL AL RL kc wc pc ac rc RD CM N RS WA PT)
    (hA : decide ((0 : Int) < (AL : Int)) = !EA) (_hP : decide ((0 : Int) < (PL : Int)) = !EP) (_hW : decide ((0 : Int) < (WL : Int)) = !EW) (hN : x.toList.isEmpty = EN) :
    Calls Tryd.prog 16 #[.agg #[.string o, .string x, .slice kp KL kc, .slice wp WL wc, .slice pp PL pc, .slice ap AL ac, .slice rp RL rc]] w fun e w' => e = .returned (.bool (RD && (EA && (EN && (((WL : Int) == 1) && (WA && PT)))))) ∧ Below w.heap.size w w' := by
  have q0 : (o.toList == [99, 109, 100]) = false := by rw [ho]; decide
  have q1 : (o.toList == [115, 101, 113]) = false := by rw [ho]; decide
  have q2 : (o.toList == [97, 110, 100]) = false := by rw [ho]; decide
  have q3 : (o.toList == [111, 114]) = false := by rw [ho]; decide
  have q4 : (o.toList == [110, 111, 116]) = false := by rw [ho]; decide
  have q5 : (o.toList == [112, 105, 112, 101]) = false := by rw [ho]; decide
  have q6 : (o.toList == [105, 102]) = false := by rw [ho]; decide
  have q7 : (o.toList == [119, 104, 105, 108, 101]) = false := by rw [ho]; decide
  have q8 : (o.toList == [117, 110, 116, 105, 108]) = false := by rw [ho]; decide
  have q9 : (o.toList == [102, 111, 114]) = false := by rw [ho]; decide
  have q10 : (o.toList == [99, 97, 115, 101]) = true := by rw [ho]; decide
  have q11 : (o.toList == [102, 117, 110]) = false := by rw [ho]; decide
  have q12 : (o.toList == [103, 114, 111, 117, 112]) = false := by rw [ho]; decide
  have q13 : (o.toList == [115, 117, 98]) = false := by rw [ho]; decide
  have HH := Lib.hid h
  have HA := Lib.hid (node_all w o x (.slice kp KL kc) (.slice wp WL wc) (.slice pp PL pc) (.slice ap AL ac) (.slice rp RL rc) 49)
  have HBX := Lib.hid (fun o => below_one w o)
  clear h ho
  cases RD with
  | false =>
    go_enter Tryd.func16, Tryd.ntmps16
    go_wp2_with fail
    obtain ⟨v, hv⟩ : ∃ v, w.alloc (.cells #[.string o, .string x, .slice kp KL kc, .slice wp WL wc, .slice pp PL pc, .slice ap AL ac, .slice rp RL rc] 49) = v := ⟨_, rfl⟩
    have HV := Lib.hid (show Below w.heap.size w v by rw [← hv]; exact HBX.out _)
    have HA := Lib.hid (show ∀ W, Below v.heap.size v W → _ from by rw [← hv]; exact HA.out)
    rw [hv]
    clear hv
    refine (HH.out.rd _ HV.out).mono ?_
    rintro e w1 ⟨rfl, hb⟩
    have HQ1 := Lib.hid hb
    obtain ⟨n0, n1, n2, n3, n4, n5, n6⟩ := HA.out w1 HQ1.out
    clear hb
    go_wp2_with fail
    go_ret
    exact ⟨ret_bool rfl, HV.out.trans (HQ1.out.mono HV.out.size)⟩
  | true =>
    cases EA with
    | false =>
      replace hA : (0 : Int) < (AL : Int) := of_decide_eq_true hA
      go_enter Tryd.func16, Tryd.ntmps16
      go_wp2_with fail
      obtain ⟨v, hv⟩ : ∃ v, w.alloc (.cells #[.string o, .string x, .slice kp KL kc, .slice wp WL wc, .slice pp PL pc, .slice ap AL ac, .slice rp RL rc] 49) = v := ⟨_, rfl⟩
      have HV := Lib.hid (show Below w.heap.size w v by rw [← hv]; exact HBX.out _)
      have HA := Lib.hid (show ∀ W, Below v.heap.size v W → _ from by rw [← hv]; exact HA.out)
      rw [hv]
      clear hv
      refine (HH.out.rd _ HV.out).mono ?_
      rintro e w1 ⟨rfl, hb⟩
      have HQ1 := Lib.hid hb
      obtain ⟨n0, n1, n2, n3, n4, n5, n6⟩ := HA.out w1 HQ1.out
      clear hb
      go_wp2_with fail
      go_ret
      exact ⟨ret_bool rfl, HV.out.trans (HQ1.out.mono HV.out.size)⟩
    | true =>
      replace hA : ¬ (0 : Int) < (AL : Int) := of_decide_eq_false hA
      cases EN with
      | false =>
        go_enter Tryd.func16, Tryd.ntmps16
        go_wp2_with fail
        obtain ⟨v, hv⟩ : ∃ v, w.alloc (.cells #[.string o, .string x, .slice kp KL kc, .slice wp WL wc, .slice pp PL pc, .slice ap AL ac, .slice rp RL rc] 49) = v := ⟨_, rfl⟩
        have HV := Lib.hid (show Below w.heap.size w v by rw [← hv]; exact HBX.out _)
        have HA := Lib.hid (show ∀ W, Below v.heap.size v W → _ from by rw [← hv]; exact HA.out)
        rw [hv]
        clear hv
        refine (HH.out.rd _ HV.out).mono ?_
        rintro e w1 ⟨rfl, hb⟩
        have HQ1 := Lib.hid hb
        obtain ⟨n0, n1, n2, n3, n4, n5, n6⟩ := HA.out w1 HQ1.out
        clear hb
        go_wp2_with fail
        go_ret
        exact ⟨ret_bool rfl, HV.out.trans (HQ1.out.mono HV.out.size)⟩
      | true =>
        by_cases hk : WL = 1
        · obtain ⟨bb, oo, u, rfl, hc, hw⟩ := HH.out.w0 hk
          have HW0 := Lib.hid hc
          have HWC := Lib.hid hw
          have hK : ((WL : Int) == 1) = true := by rw [hk]; rfl
          have hK0 : (0 : Int) < (WL : Int) := by omega
          rw [hK]
          clear hc hw hk
          cases WA with
          | false =>
            have HZ := Lib.hid (show AL = 0 by omega)
            go_enter Tryd.func16, Tryd.ntmps16
            go_wp2_with fail
            obtain ⟨v, hv⟩ : ∃ v, w.alloc (.cells #[.string o, .string x, .slice kp KL kc, .slice (some ⟨bb, oo, none⟩) WL wc, .slice pp PL pc, .slice ap AL ac, .slice rp RL rc] 49) = v := ⟨_, rfl⟩
            have HV := Lib.hid (show Below w.heap.size w v by rw [← hv]; exact HBX.out _)
            have HA := Lib.hid (show ∀ W, Below v.heap.size v W → _ from by rw [← hv]; exact HA.out)
            rw [hv]
            clear hv
            refine (HH.out.rd _ HV.out).mono ?_
            rintro e w1 ⟨rfl, hb⟩
            have HQ1 := Lib.hid hb
            obtain ⟨n0, n1, n2, n3, n4, n5, n6⟩ := HA.out w1 HQ1.out
            clear hb
            have d0 := HW0.out w1 (HV.out.trans (HQ1.out.mono HV.out.size))
            go_wp2_with fail
            obtain rfl : AL = 0 := HZ.out
            refine (HWC.out _ (HV.out.trans (HQ1.out.mono HV.out.size))).mono ?_
            rintro e w2 ⟨rfl, hb⟩
            have HQ2 := Lib.hid (HQ1.out.trans (hb.mono HQ1.out.size))
            obtain ⟨n0, n1, n2, n3, n4, n5, n6⟩ := HA.out w2 HQ2.out
            clear hb
            go_wp2_with fail
            go_ret
            exact ⟨ret_bool rfl, HV.out.trans (HQ2.out.mono HV.out.size)⟩
          | true =>
            have HZ := Lib.hid (show AL = 0 by omega)
            go_enter Tryd.func16, Tryd.ntmps16
            go_wp2_with fail
            obtain ⟨v, hv⟩ : ∃ v, w.alloc (.cells #[.string o, .string x, .slice kp KL kc, .slice (some ⟨bb, oo, none⟩) WL wc, .slice pp PL pc, .slice ap AL ac, .slice rp RL rc] 49) = v := ⟨_, rfl⟩
            have HV := Lib.hid (show Below w.heap.size w v by rw [← hv]; exact HBX.out _)
            have HA := Lib.hid (show ∀ W, Below v.heap.size v W → _ from by rw [← hv]; exact HA.out)
            rw [hv]
            clear hv
            refine (HH.out.rd _ HV.out).mono ?_
            rintro e w1 ⟨rfl, hb⟩
            have HQ1 := Lib.hid hb
            obtain ⟨n0, n1, n2, n3, n4, n5, n6⟩ := HA.out w1 HQ1.out
            clear hb
            have d0 := HW0.out w1 (HV.out.trans (HQ1.out.mono HV.out.size))
            go_wp2_with fail
            obtain rfl : AL = 0 := HZ.out
            refine (HWC.out _ (HV.out.trans (HQ1.out.mono HV.out.size))).mono ?_
            rintro e w2 ⟨rfl, hb⟩
            have HQ2 := Lib.hid (HQ1.out.trans (hb.mono HQ1.out.size))
            obtain ⟨n0, n1, n2, n3, n4, n5, n6⟩ := HA.out w2 HQ2.out
            clear hb
            go_wp2_with fail
            refine (HH.out.pt _ (HV.out.trans (HQ2.out.mono HV.out.size))).mono ?_
            rintro e w3 ⟨rfl, hb⟩
            have HQ3 := Lib.hid (HQ2.out.trans (hb.mono HQ2.out.size))
            obtain ⟨n0, n1, n2, n3, n4, n5, n6⟩ := HA.out w3 HQ3.out
            clear hb
            go_wp2_with fail
            go_ret
            exact ⟨ret_bool rfl, HV.out.trans (HQ3.out.mono HV.out.size)⟩
        · have hK : ((WL : Int) == 1) = false := int_ne (by omega)
          rw [hK]
          clear hk
          go_enter Tryd.func16, Tryd.ntmps16
          go_wp2_with fail
          obtain ⟨v, hv⟩ : ∃ v, w.alloc (.cells #[.string o, .string x, .slice kp KL kc, .slice wp WL wc, .slice pp PL pc, .slice ap AL ac, .slice rp RL rc] 49) = v := ⟨_, rfl⟩
          have HV := Lib.hid (show Below w.heap.size w v by rw [← hv]; exact HBX.out _)
          have HA := Lib.hid (show ∀ W, Below v.heap.size v W → _ from by rw [← hv]; exact HA.out)
          rw [hv]
          clear hv
          refine (HH.out.rd _ HV.out).mono ?_
          rintro e w1 ⟨rfl, hb⟩
          have HQ1 := Lib.hid hb
          obtain ⟨n0, n1, n2, n3, n4, n5, n6⟩ := HA.out w1 HQ1.out
          clear hb
          go_wp2_with fail
          go_ret
          exact ⟨ret_bool rfl, HV.out.trans (HQ1.out.mono HV.out.size)⟩
end Go.Proofs.YtloaalapkmbgeaaDoor

namespace Go.Proofs.YtloaalapkmbgeaaDoor.TreeMath
open Go Go.Lib GlyphMath LexMath

/-- A node is as it must be, but for its kids. -/
def oneN (n : Nd) : Bool := fitsT n && spellsT n
def rkidsT (walk : Nat → Option Nat) (ns : List Nd) (n : Nd) : Nat → List Int → Nat → Option Nat
  | _, [], next => some next
  | i, k :: ks, next => if k = (next : Int) then match ns[next]? with
      | none => none
      | some kd => if takesT n i kd then match walk next with
        | none => none
        | some m => rkidsT walk ns n (i + 1) ks m
        else none
    else none
def rwalkT (ns : List Nd) : Nat → Nat → Option Nat
  | 0, _ => none
  | f + 1, a => match ns[a]? with
    | none => none
    | some n => rkidsT (rwalkT ns f) ns n 0 n.kids (a + 1)
def oneAt (ns : List Nd) (j : Nat) : Prop := ∃ n, ns[j]? = some n ∧ oneN n = true

theorem rkids_le {walk : Nat → Option Nat} (hw : ∀ a m, walk a = some m → a < m) {ns : List Nd} {n : Nd} : ∀ (ks : List Int) (i next m : Nat), rkidsT walk ns n i ks next = some m → next ≤ m
  | [], i, next, m, h => by
    rw [rkidsT] at h
    have := Option.some.inj h
    omega
  | k :: ks, i, next, m, h => by
    rw [rkidsT] at h
    split at h
    · split at h
      · cases h
      · split at h
        · split at h
          · cases h
          · rename_i m' hm
            have h1 := hw _ _ hm
            have h2 := rkids_le hw ks _ _ _ h
            omega
        · cases h
    · cases h
theorem rwalk_lt {ns : List Nd} : ∀ (f a m : Nat), rwalkT ns f a = some m → a < m
  | 0, _, _, h => by cases h
  | f + 1, a, m, h => by
    rw [rwalkT] at h
    split at h
    · cases h
    · have := rkids_le (fun a m h => rwalk_lt f a m h) _ _ _ _ h
      omega
theorem kids_le {walk : Int → Nat → Option Nat} (hw : ∀ k a m, walk k a = some m → a < m) {ns : List Nd} {n : Nd} : ∀ (ks : List Int) (i next m : Nat), kidsT walk ns n i ks next = some m → next ≤ m
  | [], i, next, m, h => by
    rw [kidsT] at h
    have := Option.some.inj h
    omega
  | k :: ks, i, next, m, h => by
    rw [kidsT] at h
    split at h
    · cases h
    · rename_i m' hm
      have h1 := hw _ _ _ hm
      split at h
      · cases h
      · split at h
        · have h2 := kids_le hw ks _ _ _ h
          omega
        · cases h
theorem walk_at {ns : List Nd} : ∀ (f : Nat) (k : Int) (next m : Nat), walkT ns f k next = some m → next < m ∧ k = (next : Int) ∧ next < ns.length
  | 0, _, _, _, h => by cases h
  | f + 1, k, next, m, h => by
    rw [walkT] at h
    split at h
    · rename_i hk
      split at h
      · cases h
      · rename_i n hn
        split at h
        · have := kids_le (fun k a m h => (walk_at f k a m h).1) _ _ _ _ h
          exact ⟨by omega, hk, (List.getElem?_eq_some_iff.1 hn).1⟩
        · cases h
    · cases h
theorem kids_same {ns : List Nd} {f : Nat} (hW : ∀ next m : Nat, walkT ns f (next : Int) next = some m ↔ (rwalkT ns f next = some m ∧ ∀ j, next ≤ j → j < m → oneAt ns j)) (n : Nd) :
    ∀ (ks : List Int) (i next m : Nat), kidsT (walkT ns f) ns n i ks next = some m ↔ (rkidsT (rwalkT ns f) ns n i ks next = some m ∧ ∀ j, next ≤ j → j < m → oneAt ns j)
  | [], i, next, m => by
    rw [kidsT, rkidsT]
    constructor
    · intro h
      have := Option.some.inj h
      exact ⟨h, fun j h1 h2 => by omega⟩
    · exact fun h => h.1
  | k :: ks, i, next, m => by
    rw [kidsT, rkidsT]
    constructor
    · intro h
      split at h
      · cases h
      · rename_i m' hm
        obtain ⟨h1, rfl, h3⟩ := walk_at _ _ _ _ hm
        obtain ⟨h4, h5⟩ := (hW next m').1 hm
        split at h
        · cases h
        · rename_i kd hkd
          rw [show ((next : Int)).toNat = next from rfl] at hkd
          split at h
          · rename_i ht
            obtain ⟨h6, h7⟩ := (kids_same hW n ks (i + 1) m' m).1 h
            refine ⟨?_, fun j a b => ?_⟩
            · rw [if_pos rfl, hkd]
              simp only
              rw [if_pos ht, h4]
              exact h6
            · by_cases hj : j < m'
              · exact h5 j a hj
              · exact h7 j (by omega) b
          · cases h
    · rintro ⟨h, ho⟩
      split at h
      · rename_i hk
        subst hk
        split at h
        · cases h
        · rename_i kd hkd
          split at h
          · rename_i ht
            split at h
            · cases h
            · rename_i m' hm
              have h1 := rwalk_lt _ _ _ hm
              have h2 := rkids_le (fun a m h => rwalk_lt f a m h) _ _ _ _ h
              rw [(hW next m').2 ⟨hm, fun j a b => ho j a (by omega)⟩]
              simp only
              rw [show ((next : Int)).toNat = next from rfl, hkd]
              simp only
              rw [if_pos ht]
              exact (kids_same hW n ks (i + 1) m' m).2 ⟨h, fun j a b => ho j (by omega) b⟩
          · cases h
      · cases h
theorem walk_same {ns : List Nd} : ∀ (f next m : Nat), walkT ns f (next : Int) next = some m ↔ (rwalkT ns f next = some m ∧ ∀ j, next ≤ j → j < m → oneAt ns j)
  | 0, next, m => by
    constructor
    · intro h; cases h
    · intro h; cases h.1
  | f + 1, next, m => by
    rw [walkT, rwalkT, if_pos rfl]
    cases hn : ns[next]? with
    | none => simp
    | some n =>
      simp only
      have hk := kids_same (ns := ns) (walk_same f) n n.kids 0 (next + 1) m
      constructor
      · intro h
        split at h
        · rename_i ho
          obtain ⟨h1, h2⟩ := hk.1 h
          refine ⟨h1, fun j a b => ?_⟩
          by_cases hj : j = next
          · subst hj; exact ⟨n, hn, ho⟩
          · exact h2 j (by omega) b
        · cases h
      · rintro ⟨h, ho⟩
        have h2 := rkids_le (fun a m h => rwalk_lt f a m h) _ _ _ _ h
        obtain ⟨n', hn', h1⟩ := ho next (Nat.le_refl _) (by omega)
        rw [hn] at hn'
        obtain rfl := Option.some.inj hn'
        rw [if_pos (show (fitsT n && spellsT n) = true from h1)]
        exact hk.2 ⟨h, fun j a b => ho j (by omega) b⟩
theorem is_ref (ns : List Nd) (root : Int) : isT ns root = (decide (1 ≤ ns.length) && (decide (ns.length ≤ 200) && ((root == 0) && (ns.all oneN && (rwalkT ns ns.length 0 == some ns.length))))) := by
  rw [Bool.eq_iff_iff]
  unfold isT
  simp only [Bool.and_eq_true, decide_eq_true_eq, beq_iff_eq]
  constructor
  · rintro ⟨h1, h2⟩
    obtain ⟨h3, h4, h5⟩ := walk_at _ _ _ _ h2
    subst h4
    obtain ⟨h6, h7⟩ := (walk_same ns.length 0 ns.length).1 h2
    refine ⟨by omega, h1, rfl, ?_, h6⟩
    rw [List.all_eq_true]
    intro n hn
    obtain ⟨j, hj⟩ := List.mem_iff_getElem?.1 hn
    obtain ⟨n', hn', ho⟩ := h7 j (by omega) (List.getElem?_eq_some_iff.1 hj).1
    rw [hj] at hn'
    obtain rfl := Option.some.inj hn'
    exact ho
  · rintro ⟨h0, h1, rfl, h3, h4⟩
    refine ⟨h1, (walk_same ns.length 0 ns.length).2 ⟨h4, fun j _ hj => ?_⟩⟩
    have hg : ns[j]? = some ns[j] := List.getElem?_eq_getElem hj
    exact ⟨ns[j], hg, List.all_eq_true.1 h3 _ (List.getElem_mem hj)⟩
end Go.Proofs.YtloaalapkmbgeaaDoor.TreeMath

namespace Go.Proofs.YtloaalapkmbgeaaDoor
open Go Go.Lib GlyphMath LexMath TreeMath

theorem has_00 {α : Type} (l : List α) : hasT 0 0 (l.length : Int) = l.isEmpty := by
  cases l with
  | nil => rfl
  | cons a r => show (decide _ && decide _) = false; rw [decide_eq_false (show ¬ ((a :: r).length : Int) ≤ 0 by rw [List.length_cons]; omega), Bool.and_false]
theorem has_max (n : Nat) (h : n ≤ 4611686018427387904) : hasT 0 9223372036854775807 (n : Int) = true := by
  unfold hasT; rw [decide_eq_true (by omega), decide_eq_true (by omega)]; rfl
theorem has_two (n : Nat) (h : n ≤ 4611686018427387904) : hasT 2 9223372036854775807 (n : Int) = decide ((2 : Int) ≤ (n : Int)) := by
  unfold hasT; rw [decide_eq_true (show (n : Int) ≤ 9223372036854775807 by omega), Bool.and_true]
theorem has_same (c : Int) (n : Nat) : hasT c c (n : Int) = ((n : Int) == c) := by
  unfold hasT
  by_cases h : (n : Int) = c
  · rw [h]; simp
  · rw [int_ne h]
    by_cases h1 : c ≤ (n : Int)
    · rw [decide_eq_false (show ¬ (n : Int) ≤ c by omega), Bool.and_false]
    · rw [decide_eq_false h1, Bool.false_and]
theorem has_23 (n : Nat) : hasT 2 3 (n : Int) = (((n : Int) == 2) || ((n : Int) == 3)) := by
  unfold hasT
  by_cases h : (n : Int) = 2
  · rw [h]; rfl
  · by_cases h3 : (n : Int) = 3
    · rw [h3]; rfl
    · rw [int_ne h, int_ne h3]
      by_cases h1 : (2 : Int) ≤ (n : Int)
      · rw [decide_eq_false (show ¬ (n : Int) ≤ 3 by omega), Bool.and_false]; rfl
      · rw [decide_eq_false h1, Bool.false_and]; rfl
theorem len_none {α : Type} (l : List α) : (l.length == 0) = l.isEmpty := by cases l <;> rfl
theorem all_none {α : Type} (f : α → Bool) (l : List α) (h : l.isEmpty = true) : l.all f = true := by rw [List.isEmpty_iff.1 h]; rfl
theorem name_empty (l : List UInt8) (h : l.isEmpty = true) : nameT l = false := by rw [List.isEmpty_iff.1 h]; rfl

theorem one_cmd (n : Nd) (h : n.op = [99, 109, 100]) (_hk : n.kids.length ≤ 4611686018427387904) (_hw : n.words.length ≤ 4611686018427387904) : oneN n = (rredirsT n && (n.pats.isEmpty && (n.name.isEmpty && (((n.kids.length : Int) == 0) && rcmdT n)))) := by
  have hf : fitsT n = shapeT ⟨[99, 109, 100], 0, 0, 0, 9223372036854775807, false, false, true, true⟩ n := by unfold fitsT; rw [h]; rfl
  have hr : rredirsT n = n.redirs.all redirT := by unfold rredirsT; rw [h]; rfl
  have hb : beginT n = commandT n := by unfold beginT; rw [h]; rfl
  unfold oneN spellsT
  rw [hf, hr, hb]
  unfold shapeT
  simp only []
  rw [has_same, has_max _ _hw]
  simp only [Bool.false_eq_true, if_false]
  rw [len_none]
  unfold rcmdT
  have i1 := all_none bareW n.words
  have i2 := all_none patT n.pats
  have i3 := all_none assignT n.assigns
  have i4 := all_none redirT n.redirs
  have i5 := name_empty n.name
  generalize n.words.all bareW = W at *
  generalize n.pats.all patT = P at *
  generalize n.assigns.all assignT = A at *
  generalize n.redirs.all redirT = D at *
  generalize nameT n.name = N at *
  generalize n.words.isEmpty = EW at *
  generalize n.pats.isEmpty = EP at *
  generalize n.assigns.isEmpty = EA at *
  generalize n.redirs.isEmpty = ER at *
  generalize n.name.isEmpty = EN at *
  generalize commandT n = CM at *
  generalize ((n.kids.length : Int) == 0) = K0
  clear hf hr hb h _hk _hw
  revert i1 i2 i3 i4 i5
  cases EN <;> cases EA <;> cases EW <;> cases EP <;> cases ER <;> cases N <;> cases K0 <;> cases CM <;> cases W <;> cases A <;> cases D <;> simp <;> intros <;> simp_all

theorem one_seq (n : Nd) (h : n.op = [115, 101, 113]) (_hk : n.kids.length ≤ 4611686018427387904) (_hw : n.words.length ≤ 4611686018427387904) : oneN n = (rredirsT n && (n.assigns.isEmpty && (n.pats.isEmpty && (n.name.isEmpty && (n.words.isEmpty && decide ((2 : Int) ≤ (n.kids.length : Int))))))) := by
  have hf : fitsT n = shapeT ⟨[115, 101, 113], 2, 9223372036854775807, 0, 0, false, false, false, false⟩ n := by unfold fitsT; rw [h]; rfl
  have hr : rredirsT n = n.redirs.isEmpty := by unfold rredirsT; rw [h]; rfl
  have hb : beginT n = true := by unfold beginT; rw [h]; rfl
  unfold oneN spellsT
  rw [hf, hr, hb]
  unfold shapeT
  simp only []
  rw [has_two _ _hk, has_00 n.words]
  simp only [Bool.false_eq_true, if_false]
  rw [len_none]
  have i1 := all_none bareW n.words
  have i2 := all_none patT n.pats
  have i3 := all_none assignT n.assigns
  have i4 := all_none redirT n.redirs
  have i5 := name_empty n.name
  generalize n.words.all bareW = W at *
  generalize n.pats.all patT = P at *
  generalize n.assigns.all assignT = A at *
  generalize n.redirs.all redirT = D at *
  generalize nameT n.name = N at *
  generalize n.words.isEmpty = EW at *
  generalize n.pats.isEmpty = EP at *
  generalize n.assigns.isEmpty = EA at *
  generalize n.redirs.isEmpty = ER at *
  generalize n.name.isEmpty = EN at *
  generalize decide ((2 : Int) ≤ (n.kids.length : Int)) = K
  clear hf hr hb h _hk _hw
  revert i1 i2 i3 i4 i5
  cases EN <;> cases EA <;> cases EW <;> cases EP <;> cases ER <;> cases N <;> cases K <;> simp <;> intros <;> simp_all

theorem one_and (n : Nd) (h : n.op = [97, 110, 100]) (_hk : n.kids.length ≤ 4611686018427387904) (_hw : n.words.length ≤ 4611686018427387904) : oneN n = (rredirsT n && (n.assigns.isEmpty && (n.pats.isEmpty && (n.name.isEmpty && (n.words.isEmpty && ((n.kids.length : Int) == 2)))))) := by
  have hf : fitsT n = shapeT ⟨[97, 110, 100], 2, 2, 0, 0, false, false, false, false⟩ n := by unfold fitsT; rw [h]; rfl
  have hr : rredirsT n = n.redirs.isEmpty := by unfold rredirsT; rw [h]; rfl
  have hb : beginT n = true := by unfold beginT; rw [h]; rfl
  unfold oneN spellsT
  rw [hf, hr, hb]
  unfold shapeT
  simp only []
  rw [has_same, has_00 n.words]
  simp only [Bool.false_eq_true, if_false]
  rw [len_none]
  have i1 := all_none bareW n.words
  have i2 := all_none patT n.pats
  have i3 := all_none assignT n.assigns
  have i4 := all_none redirT n.redirs
  have i5 := name_empty n.name
  generalize n.words.all bareW = W at *
  generalize n.pats.all patT = P at *
  generalize n.assigns.all assignT = A at *
  generalize n.redirs.all redirT = D at *
  generalize nameT n.name = N at *
  generalize n.words.isEmpty = EW at *
  generalize n.pats.isEmpty = EP at *
  generalize n.assigns.isEmpty = EA at *
  generalize n.redirs.isEmpty = ER at *
  generalize n.name.isEmpty = EN at *
  generalize ((n.kids.length : Int) == 2) = K2
  clear hf hr hb h _hk _hw
  revert i1 i2 i3 i4 i5
  cases EN <;> cases EA <;> cases EW <;> cases EP <;> cases ER <;> cases N <;> cases K2 <;> simp <;> intros <;> simp_all

theorem one_or (n : Nd) (h : n.op = [111, 114]) (_hk : n.kids.length ≤ 4611686018427387904) (_hw : n.words.length ≤ 4611686018427387904) : oneN n = (rredirsT n && (n.assigns.isEmpty && (n.pats.isEmpty && (n.name.isEmpty && (n.words.isEmpty && ((n.kids.length : Int) == 2)))))) := by
  have hf : fitsT n = shapeT ⟨[111, 114], 2, 2, 0, 0, false, false, false, false⟩ n := by unfold fitsT; rw [h]; rfl
  have hr : rredirsT n = n.redirs.isEmpty := by unfold rredirsT; rw [h]; rfl
  have hb : beginT n = true := by unfold beginT; rw [h]; rfl
  unfold oneN spellsT
  rw [hf, hr, hb]
  unfold shapeT
  simp only []
  rw [has_same, has_00 n.words]
  simp only [Bool.false_eq_true, if_false]
  rw [len_none]
  have i1 := all_none bareW n.words
  have i2 := all_none patT n.pats
  have i3 := all_none assignT n.assigns
  have i4 := all_none redirT n.redirs
  have i5 := name_empty n.name
  generalize n.words.all bareW = W at *
  generalize n.pats.all patT = P at *
  generalize n.assigns.all assignT = A at *
  generalize n.redirs.all redirT = D at *
  generalize nameT n.name = N at *
  generalize n.words.isEmpty = EW at *
  generalize n.pats.isEmpty = EP at *
  generalize n.assigns.isEmpty = EA at *
  generalize n.redirs.isEmpty = ER at *
  generalize n.name.isEmpty = EN at *
  generalize ((n.kids.length : Int) == 2) = K2
  clear hf hr hb h _hk _hw
  revert i1 i2 i3 i4 i5
  cases EN <;> cases EA <;> cases EW <;> cases EP <;> cases ER <;> cases N <;> cases K2 <;> simp <;> intros <;> simp_all

theorem one_not (n : Nd) (h : n.op = [110, 111, 116]) (_hk : n.kids.length ≤ 4611686018427387904) (_hw : n.words.length ≤ 4611686018427387904) : oneN n = (rredirsT n && (n.assigns.isEmpty && (n.pats.isEmpty && (n.name.isEmpty && (n.words.isEmpty && ((n.kids.length : Int) == 1)))))) := by
  have hf : fitsT n = shapeT ⟨[110, 111, 116], 1, 1, 0, 0, false, false, false, false⟩ n := by unfold fitsT; rw [h]; rfl
  have hr : rredirsT n = n.redirs.isEmpty := by unfold rredirsT; rw [h]; rfl
  have hb : beginT n = true := by unfold beginT; rw [h]; rfl
  unfold oneN spellsT
  rw [hf, hr, hb]
  unfold shapeT
  simp only []
  rw [has_same, has_00 n.words]
  simp only [Bool.false_eq_true, if_false]
  rw [len_none]
  have i1 := all_none bareW n.words
  have i2 := all_none patT n.pats
  have i3 := all_none assignT n.assigns
  have i4 := all_none redirT n.redirs
  have i5 := name_empty n.name
  generalize n.words.all bareW = W at *
  generalize n.pats.all patT = P at *
  generalize n.assigns.all assignT = A at *
  generalize n.redirs.all redirT = D at *
  generalize nameT n.name = N at *
  generalize n.words.isEmpty = EW at *
  generalize n.pats.isEmpty = EP at *
  generalize n.assigns.isEmpty = EA at *
  generalize n.redirs.isEmpty = ER at *
  generalize n.name.isEmpty = EN at *
  generalize ((n.kids.length : Int) == 1) = K1
  clear hf hr hb h _hk _hw
  revert i1 i2 i3 i4 i5
  cases EN <;> cases EA <;> cases EW <;> cases EP <;> cases ER <;> cases N <;> cases K1 <;> simp <;> intros <;> simp_all

theorem one_pipe (n : Nd) (h : n.op = [112, 105, 112, 101]) (_hk : n.kids.length ≤ 4611686018427387904) (_hw : n.words.length ≤ 4611686018427387904) : oneN n = (rredirsT n && (n.assigns.isEmpty && (n.pats.isEmpty && (n.name.isEmpty && (n.words.isEmpty && decide ((2 : Int) ≤ (n.kids.length : Int))))))) := by
  have hf : fitsT n = shapeT ⟨[112, 105, 112, 101], 2, 9223372036854775807, 0, 0, false, false, false, false⟩ n := by unfold fitsT; rw [h]; rfl
  have hr : rredirsT n = n.redirs.isEmpty := by unfold rredirsT; rw [h]; rfl
  have hb : beginT n = true := by unfold beginT; rw [h]; rfl
  unfold oneN spellsT
  rw [hf, hr, hb]
  unfold shapeT
  simp only []
  rw [has_two _ _hk, has_00 n.words]
  simp only [Bool.false_eq_true, if_false]
  rw [len_none]
  have i1 := all_none bareW n.words
  have i2 := all_none patT n.pats
  have i3 := all_none assignT n.assigns
  have i4 := all_none redirT n.redirs
  have i5 := name_empty n.name
  generalize n.words.all bareW = W at *
  generalize n.pats.all patT = P at *
  generalize n.assigns.all assignT = A at *
  generalize n.redirs.all redirT = D at *
  generalize nameT n.name = N at *
  generalize n.words.isEmpty = EW at *
  generalize n.pats.isEmpty = EP at *
  generalize n.assigns.isEmpty = EA at *
  generalize n.redirs.isEmpty = ER at *
  generalize n.name.isEmpty = EN at *
  generalize decide ((2 : Int) ≤ (n.kids.length : Int)) = K
  clear hf hr hb h _hk _hw
  revert i1 i2 i3 i4 i5
  cases EN <;> cases EA <;> cases EW <;> cases EP <;> cases ER <;> cases N <;> cases K <;> simp <;> intros <;> simp_all

theorem one_if (n : Nd) (h : n.op = [105, 102]) (_hk : n.kids.length ≤ 4611686018427387904) (_hw : n.words.length ≤ 4611686018427387904) : oneN n = (rredirsT n && (n.assigns.isEmpty && (n.pats.isEmpty && (n.name.isEmpty && (n.words.isEmpty && (((n.kids.length : Int) == 2) || ((n.kids.length : Int) == 3))))))) := by
  have hf : fitsT n = shapeT ⟨[105, 102], 2, 3, 0, 0, false, false, false, true⟩ n := by unfold fitsT; rw [h]; rfl
  have hr : rredirsT n = n.redirs.all redirT := by unfold rredirsT; rw [h]; rfl
  have hb : beginT n = true := by unfold beginT; rw [h]; rfl
  unfold oneN spellsT
  rw [hf, hr, hb]
  unfold shapeT
  simp only []
  rw [has_23, has_00 n.words]
  simp only [Bool.false_eq_true, if_false]
  rw [len_none]
  have i1 := all_none bareW n.words
  have i2 := all_none patT n.pats
  have i3 := all_none assignT n.assigns
  have i4 := all_none redirT n.redirs
  have i5 := name_empty n.name
  generalize n.words.all bareW = W at *
  generalize n.pats.all patT = P at *
  generalize n.assigns.all assignT = A at *
  generalize n.redirs.all redirT = D at *
  generalize nameT n.name = N at *
  generalize n.words.isEmpty = EW at *
  generalize n.pats.isEmpty = EP at *
  generalize n.assigns.isEmpty = EA at *
  generalize n.redirs.isEmpty = ER at *
  generalize n.name.isEmpty = EN at *
  generalize ((n.kids.length : Int) == 2) = K2
  generalize ((n.kids.length : Int) == 3) = K3
  clear hf hr hb h _hk _hw
  revert i1 i2 i3 i4 i5
  cases EN <;> cases EA <;> cases EW <;> cases EP <;> cases ER <;> cases N <;> cases K2 <;> cases K3 <;> cases D <;> simp <;> intros <;> simp_all

theorem one_while (n : Nd) (h : n.op = [119, 104, 105, 108, 101]) (_hk : n.kids.length ≤ 4611686018427387904) (_hw : n.words.length ≤ 4611686018427387904) : oneN n = (rredirsT n && (n.assigns.isEmpty && (n.pats.isEmpty && (n.name.isEmpty && (n.words.isEmpty && ((n.kids.length : Int) == 2)))))) := by
  have hf : fitsT n = shapeT ⟨[119, 104, 105, 108, 101], 2, 2, 0, 0, false, false, false, true⟩ n := by unfold fitsT; rw [h]; rfl
  have hr : rredirsT n = n.redirs.all redirT := by unfold rredirsT; rw [h]; rfl
  have hb : beginT n = true := by unfold beginT; rw [h]; rfl
  unfold oneN spellsT
  rw [hf, hr, hb]
  unfold shapeT
  simp only []
  rw [has_same, has_00 n.words]
  simp only [Bool.false_eq_true, if_false]
  rw [len_none]
  have i1 := all_none bareW n.words
  have i2 := all_none patT n.pats
  have i3 := all_none assignT n.assigns
  have i4 := all_none redirT n.redirs
  have i5 := name_empty n.name
  generalize n.words.all bareW = W at *
  generalize n.pats.all patT = P at *
  generalize n.assigns.all assignT = A at *
  generalize n.redirs.all redirT = D at *
  generalize nameT n.name = N at *
  generalize n.words.isEmpty = EW at *
  generalize n.pats.isEmpty = EP at *
  generalize n.assigns.isEmpty = EA at *
  generalize n.redirs.isEmpty = ER at *
  generalize n.name.isEmpty = EN at *
  generalize ((n.kids.length : Int) == 2) = K2
  clear hf hr hb h _hk _hw
  revert i1 i2 i3 i4 i5
  cases EN <;> cases EA <;> cases EW <;> cases EP <;> cases ER <;> cases N <;> cases K2 <;> cases D <;> simp <;> intros <;> simp_all

theorem one_until (n : Nd) (h : n.op = [117, 110, 116, 105, 108]) (_hk : n.kids.length ≤ 4611686018427387904) (_hw : n.words.length ≤ 4611686018427387904) : oneN n = (rredirsT n && (n.assigns.isEmpty && (n.pats.isEmpty && (n.name.isEmpty && (n.words.isEmpty && ((n.kids.length : Int) == 2)))))) := by
  have hf : fitsT n = shapeT ⟨[117, 110, 116, 105, 108], 2, 2, 0, 0, false, false, false, true⟩ n := by unfold fitsT; rw [h]; rfl
  have hr : rredirsT n = n.redirs.all redirT := by unfold rredirsT; rw [h]; rfl
  have hb : beginT n = true := by unfold beginT; rw [h]; rfl
  unfold oneN spellsT
  rw [hf, hr, hb]
  unfold shapeT
  simp only []
  rw [has_same, has_00 n.words]
  simp only [Bool.false_eq_true, if_false]
  rw [len_none]
  have i1 := all_none bareW n.words
  have i2 := all_none patT n.pats
  have i3 := all_none assignT n.assigns
  have i4 := all_none redirT n.redirs
  have i5 := name_empty n.name
  generalize n.words.all bareW = W at *
  generalize n.pats.all patT = P at *
  generalize n.assigns.all assignT = A at *
  generalize n.redirs.all redirT = D at *
  generalize nameT n.name = N at *
  generalize n.words.isEmpty = EW at *
  generalize n.pats.isEmpty = EP at *
  generalize n.assigns.isEmpty = EA at *
  generalize n.redirs.isEmpty = ER at *
  generalize n.name.isEmpty = EN at *
  generalize ((n.kids.length : Int) == 2) = K2
  clear hf hr hb h _hk _hw
  revert i1 i2 i3 i4 i5
  cases EN <;> cases EA <;> cases EW <;> cases EP <;> cases ER <;> cases N <;> cases K2 <;> cases D <;> simp <;> intros <;> simp_all

theorem one_for (n : Nd) (h : n.op = [102, 111, 114]) (_hk : n.kids.length ≤ 4611686018427387904) (_hw : n.words.length ≤ 4611686018427387904) : oneN n = (rredirsT n && (n.assigns.isEmpty && (n.pats.isEmpty && (((n.kids.length : Int) == 1) && (nameT n.name && n.words.all bareW))))) := by
  have hf : fitsT n = shapeT ⟨[102, 111, 114], 1, 1, 0, 9223372036854775807, true, false, false, true⟩ n := by unfold fitsT; rw [h]; rfl
  have hr : rredirsT n = n.redirs.all redirT := by unfold rredirsT; rw [h]; rfl
  have hb : beginT n = true := by unfold beginT; rw [h]; rfl
  unfold oneN spellsT
  rw [hf, hr, hb]
  unfold shapeT
  simp only []
  rw [has_same, has_max _ _hw]
  simp only [Bool.false_eq_true, if_false]
  rw [len_none]
  have i1 := all_none bareW n.words
  have i2 := all_none patT n.pats
  have i3 := all_none assignT n.assigns
  have i4 := all_none redirT n.redirs
  have i5 := name_empty n.name
  generalize n.words.all bareW = W at *
  generalize n.pats.all patT = P at *
  generalize n.assigns.all assignT = A at *
  generalize n.redirs.all redirT = D at *
  generalize nameT n.name = N at *
  generalize n.words.isEmpty = EW at *
  generalize n.pats.isEmpty = EP at *
  generalize n.assigns.isEmpty = EA at *
  generalize n.redirs.isEmpty = ER at *
  generalize n.name.isEmpty = EN at *
  generalize ((n.kids.length : Int) == 1) = K1
  clear hf hr hb h _hk _hw
  revert i1 i2 i3 i4 i5
  cases EN <;> cases EA <;> cases EW <;> cases EP <;> cases ER <;> cases N <;> cases K1 <;> cases W <;> cases D <;> simp <;> intros <;> simp_all

theorem one_case (n : Nd) (h : n.op = [99, 97, 115, 101]) (_hk : n.kids.length ≤ 4611686018427387904) (_hw : n.words.length ≤ 4611686018427387904) : oneN n = (rredirsT n && (n.assigns.isEmpty && (n.name.isEmpty && (((n.words.length : Int) == 1) && (n.words.all bareW && rpatsT n))))) := by
  have hf : fitsT n = shapeT ⟨[99, 97, 115, 101], 0, 9223372036854775807, 1, 1, false, true, false, true⟩ n := by unfold fitsT; rw [h]; rfl
  have hr : rredirsT n = n.redirs.all redirT := by unfold rredirsT; rw [h]; rfl
  have hb : beginT n = true := by unfold beginT; rw [h]; rfl
  unfold oneN spellsT
  rw [hf, hr, hb]
  unfold shapeT
  simp only []
  rw [has_max _ _hk, has_same]
  unfold rpatsT
  simp only [if_true]
  have i1 := all_none bareW n.words
  have i2 := all_none patT n.pats
  have i3 := all_none assignT n.assigns
  have i4 := all_none redirT n.redirs
  have i5 := name_empty n.name
  generalize n.words.all bareW = W at *
  generalize n.pats.all patT = P at *
  generalize n.assigns.all assignT = A at *
  generalize n.redirs.all redirT = D at *
  generalize nameT n.name = N at *
  generalize n.words.isEmpty = EW at *
  generalize n.pats.isEmpty = EP at *
  generalize n.assigns.isEmpty = EA at *
  generalize n.redirs.isEmpty = ER at *
  generalize n.name.isEmpty = EN at *
  generalize ((n.words.length : Int) == 1) = K
  generalize (n.pats.length == n.kids.length) = K2
  clear hf hr hb h _hk _hw
  revert i1 i2 i3 i4 i5
  cases EN <;> cases EA <;> cases EW <;> cases EP <;> cases ER <;> simp <;> intros <;> simp_all
  all_goals (try (cases K <;> cases K2 <;> cases W <;> cases P <;> cases D <;> simp_all))

theorem one_fun (n : Nd) (h : n.op = [102, 117, 110]) (_hk : n.kids.length ≤ 4611686018427387904) (_hw : n.words.length ≤ 4611686018427387904) : oneN n = (rredirsT n && (n.assigns.isEmpty && (n.pats.isEmpty && (n.words.isEmpty && (((n.kids.length : Int) == 1) && (nameT n.name && !reservedT n.name)))))) := by
  have hf : fitsT n = shapeT ⟨[102, 117, 110], 1, 1, 0, 0, true, false, false, false⟩ n := by unfold fitsT; rw [h]; rfl
  have hr : rredirsT n = n.redirs.isEmpty := by unfold rredirsT; rw [h]; rfl
  have hb : beginT n = !reservedT n.name := by unfold beginT; rw [h]; rfl
  unfold oneN spellsT
  rw [hf, hr, hb]
  unfold shapeT
  simp only []
  rw [has_same, has_00 n.words]
  simp only [Bool.false_eq_true, if_false]
  rw [len_none]
  have i1 := all_none bareW n.words
  have i2 := all_none patT n.pats
  have i3 := all_none assignT n.assigns
  have i4 := all_none redirT n.redirs
  have i5 := name_empty n.name
  generalize n.words.all bareW = W at *
  generalize n.pats.all patT = P at *
  generalize n.assigns.all assignT = A at *
  generalize n.redirs.all redirT = D at *
  generalize nameT n.name = N at *
  generalize n.words.isEmpty = EW at *
  generalize n.pats.isEmpty = EP at *
  generalize n.assigns.isEmpty = EA at *
  generalize n.redirs.isEmpty = ER at *
  generalize n.name.isEmpty = EN at *
  generalize reservedT n.name = RS at *
  generalize ((n.kids.length : Int) == 1) = K1
  clear hf hr hb h _hk _hw
  revert i1 i2 i3 i4 i5
  cases EN <;> cases EA <;> cases EW <;> cases EP <;> cases ER <;> cases N <;> cases K1 <;> cases RS <;> simp <;> intros <;> simp_all

theorem one_group (n : Nd) (h : n.op = [103, 114, 111, 117, 112]) (_hk : n.kids.length ≤ 4611686018427387904) (_hw : n.words.length ≤ 4611686018427387904) : oneN n = (rredirsT n && (n.assigns.isEmpty && (n.pats.isEmpty && (n.name.isEmpty && (n.words.isEmpty && ((n.kids.length : Int) == 1)))))) := by
  have hf : fitsT n = shapeT ⟨[103, 114, 111, 117, 112], 1, 1, 0, 0, false, false, false, true⟩ n := by unfold fitsT; rw [h]; rfl
  have hr : rredirsT n = n.redirs.all redirT := by unfold rredirsT; rw [h]; rfl
  have hb : beginT n = true := by unfold beginT; rw [h]; rfl
  unfold oneN spellsT
  rw [hf, hr, hb]
  unfold shapeT
  simp only []
  rw [has_same, has_00 n.words]
  simp only [Bool.false_eq_true, if_false]
  rw [len_none]
  have i1 := all_none bareW n.words
  have i2 := all_none patT n.pats
  have i3 := all_none assignT n.assigns
  have i4 := all_none redirT n.redirs
  have i5 := name_empty n.name
  generalize n.words.all bareW = W at *
  generalize n.pats.all patT = P at *
  generalize n.assigns.all assignT = A at *
  generalize n.redirs.all redirT = D at *
  generalize nameT n.name = N at *
  generalize n.words.isEmpty = EW at *
  generalize n.pats.isEmpty = EP at *
  generalize n.assigns.isEmpty = EA at *
  generalize n.redirs.isEmpty = ER at *
  generalize n.name.isEmpty = EN at *
  generalize ((n.kids.length : Int) == 1) = K1
  clear hf hr hb h _hk _hw
  revert i1 i2 i3 i4 i5
  cases EN <;> cases EA <;> cases EW <;> cases EP <;> cases ER <;> cases N <;> cases K1 <;> cases D <;> simp <;> intros <;> simp_all

theorem one_sub (n : Nd) (h : n.op = [115, 117, 98]) (_hk : n.kids.length ≤ 4611686018427387904) (_hw : n.words.length ≤ 4611686018427387904) : oneN n = (rredirsT n && (n.assigns.isEmpty && (n.pats.isEmpty && (n.name.isEmpty && (n.words.isEmpty && ((n.kids.length : Int) == 1)))))) := by
  have hf : fitsT n = shapeT ⟨[115, 117, 98], 1, 1, 0, 0, false, false, false, true⟩ n := by unfold fitsT; rw [h]; rfl
  have hr : rredirsT n = n.redirs.all redirT := by unfold rredirsT; rw [h]; rfl
  have hb : beginT n = true := by unfold beginT; rw [h]; rfl
  unfold oneN spellsT
  rw [hf, hr, hb]
  unfold shapeT
  simp only []
  rw [has_same, has_00 n.words]
  simp only [Bool.false_eq_true, if_false]
  rw [len_none]
  have i1 := all_none bareW n.words
  have i2 := all_none patT n.pats
  have i3 := all_none assignT n.assigns
  have i4 := all_none redirT n.redirs
  have i5 := name_empty n.name
  generalize n.words.all bareW = W at *
  generalize n.pats.all patT = P at *
  generalize n.assigns.all assignT = A at *
  generalize n.redirs.all redirT = D at *
  generalize nameT n.name = N at *
  generalize n.words.isEmpty = EW at *
  generalize n.pats.isEmpty = EP at *
  generalize n.assigns.isEmpty = EA at *
  generalize n.redirs.isEmpty = ER at *
  generalize n.name.isEmpty = EN at *
  generalize ((n.kids.length : Int) == 1) = K1
  clear hf hr hb h _hk _hw
  revert i1 i2 i3 i4 i5
  cases EN <;> cases EA <;> cases EW <;> cases EP <;> cases ER <;> cases N <;> cases K1 <;> cases D <;> simp <;> intros <;> simp_all

theorem one_other (n : Nd) (h : opsL.contains n.op = false) : oneN n = false := by
  obtain ⟨q0, q1, q2, q3, q4, q5, q6, q7, q8, q9, q10, q11, q12, q13⟩ := ops_none h
  have e : ∀ l k : List UInt8, (l == k) = false → (k == l) = false := fun l k h => list_ne fun e => by rw [e] at h; simp at h
  have hf : fitsT n = false := by
    unfold fitsT shapesL
    simp only [List.find?, e _ _ q0, e _ _ q1, e _ _ q2, e _ _ q3, e _ _ q4, e _ _ q5, e _ _ q6, e _ _ q7, e _ _ q8, e _ _ q9, e _ _ q10, e _ _ q11, e _ _ q12, e _ _ q13]
  unfold oneN
  rw [hf, Bool.false_and]
end Go.Proofs.YtloaalapkmbgeaaDoor

namespace Go.Proofs.YtloaalapkmbgeaaDoor
open Go Go.RowKit GlyphMath LexMath TreeMath

theorem rank_seq (k : List UInt8) : decide (rankT k < 4) = !(k == [115, 101, 113]) := by
  unfold rankT
  by_cases h1 : k = [115, 101, 113]
  · subst h1; decide
  rw [if_neg h1, list_ne h1]
  repeat' split
  all_goals decide
theorem rank_and (k : List UInt8) : decide (rankT k < 3) = (!(k == [115, 101, 113]) && (!(k == [97, 110, 100]) && !(k == [111, 114]))) := by
  unfold rankT
  by_cases h1 : k = [115, 101, 113]
  · subst h1; decide
  rw [if_neg h1, list_ne h1]
  by_cases h2 : k = [97, 110, 100]
  · subst h2; decide
  rw [if_neg h2, list_ne h2]
  by_cases h3 : k = [111, 114]
  · subst h3; decide
  rw [if_neg h3, list_ne h3]
  repeat' split
  all_goals decide
theorem rank_and0 (k : List UInt8) : decide (rankT k ≤ 3) = !(k == [115, 101, 113]) := by
  rw [← rank_seq]
  exact decide_eq_decide.2 (by omega)
theorem rank_not (k : List UInt8) : decide (rankT k < 2) = !([[115, 101, 113], [97, 110, 100], [111, 114], [110, 111, 116]] : List (List UInt8)).contains k := by
  unfold rankT
  by_cases h1 : k = [115, 101, 113]
  · subst h1; decide
  by_cases h2 : k = [97, 110, 100]
  · subst h2; decide
  by_cases h3 : k = [111, 114]
  · subst h3; decide
  by_cases h4 : k = [110, 111, 116]
  · subst h4; decide
  rw [if_neg h1, if_neg h2, if_neg h3, if_neg h4]
  have e : ([[115, 101, 113], [97, 110, 100], [111, 114], [110, 111, 116]] : List (List UInt8)).contains k = false := by simp [h1, h2, h3, h4]
  rw [e]
  split <;> decide
theorem rank_pipe (k : List UInt8) : decide (rankT k < 1) = !([[115, 101, 113], [97, 110, 100], [111, 114], [110, 111, 116], [112, 105, 112, 101]] : List (List UInt8)).contains k := by
  unfold rankT
  by_cases h1 : k = [115, 101, 113]
  · subst h1; decide
  by_cases h2 : k = [97, 110, 100]
  · subst h2; decide
  by_cases h3 : k = [111, 114]
  · subst h3; decide
  by_cases h4 : k = [110, 111, 116]
  · subst h4; decide
  by_cases h5 : k = [112, 105, 112, 101]
  · subst h5; decide
  rw [if_neg h1, if_neg h2, if_neg h3, if_neg h4, if_neg h5]
  have e : ([[115, 101, 113], [97, 110, 100], [111, 114], [110, 111, 116], [112, 105, 112, 101]] : List (List UInt8)).contains k = false := by simp [h1, h2, h3, h4, h5]
  rw [e]
  decide
/-- What a node may have as its kid, by its Op. -/
def kidT (n : Nd) (i : Nat) (k : Nd) : Bool :=
  if n.op = [115, 101, 113] then !(k.op == [115, 101, 113])
  else if n.op = [97, 110, 100] then !(k.op == [115, 101, 113]) && (((i : Int) == 0) || (!(k.op == [97, 110, 100]) && !(k.op == [111, 114])))
  else if n.op = [111, 114] then !(k.op == [115, 101, 113]) && (((i : Int) == 0) || (!(k.op == [97, 110, 100]) && !(k.op == [111, 114])))
  else if n.op = [110, 111, 116] then !([[115, 101, 113], [97, 110, 100], [111, 114], [110, 111, 116]] : List (List UInt8)).contains k.op
  else if n.op = [112, 105, 112, 101] then !([[115, 101, 113], [97, 110, 100], [111, 114], [110, 111, 116], [112, 105, 112, 101]] : List (List UInt8)).contains k.op
  else if n.op = [102, 117, 110] then (k.op == [103, 114, 111, 117, 112] || k.op == [115, 117, 98]) && k.redirs.isEmpty
  else true
theorem kid_is (n : Nd) (i : Nat) (k : Nd) : takesT n i k = kidT n i k := by
  have hi : (i = 0 ∧ ((i : Int) == 0) = true) ∨ (¬ i = 0 ∧ ((i : Int) == 0) = false) := by
    by_cases h : i = 0
    · exact .inl ⟨h, by rw [h]; rfl⟩
    · exact .inr ⟨h, int_ne (by omega)⟩
  unfold takesT kidT
  by_cases h1 : n.op = [115, 101, 113]
  · rw [if_pos h1, h1, if_neg (by decide), if_neg (fun e => absurd e.1 (by decide)), show rankT [115, 101, 113] = 4 from by decide, rank_seq]; rfl
  rw [if_neg h1]
  by_cases h2 : n.op = [97, 110, 100]
  · rw [if_pos h2, h2, if_neg (by decide), show rankT [97, 110, 100] = 3 from by decide]
    rcases hi with ⟨a, b⟩ | ⟨a, b⟩
    · rw [if_pos ⟨.inl rfl, a⟩, b, rank_and0]; simp
    · rw [if_neg (fun e => a e.2), b, rank_and]; rfl
  rw [if_neg h2]
  by_cases h3 : n.op = [111, 114]
  · rw [if_pos h3, h3, if_neg (by decide), show rankT [111, 114] = 3 from by decide]
    rcases hi with ⟨a, b⟩ | ⟨a, b⟩
    · rw [if_pos ⟨.inr rfl, a⟩, b, rank_and0]; simp
    · rw [if_neg (fun e => a e.2), b, rank_and]; rfl
  rw [if_neg h3]
  by_cases h4 : n.op = [110, 111, 116]
  · rw [if_pos h4, h4, if_neg (by decide), if_neg (fun e => absurd e.1 (by decide)), show rankT [110, 111, 116] = 2 from by decide, rank_not]; rfl
  rw [if_neg h4]
  by_cases h5 : n.op = [112, 105, 112, 101]
  · rw [if_pos h5, h5, if_neg (by decide), if_neg (fun e => absurd e.1 (by decide)), show rankT [112, 105, 112, 101] = 1 from by decide, rank_pipe]; rfl
  rw [if_neg h5]
  by_cases h6 : n.op = [102, 117, 110]
  · rw [if_pos h6, if_pos h6]
  rw [if_neg h6, if_neg h6, if_neg (fun e => e.1.elim h2 h3)]
  have : rankT n.op = 0 := by unfold rankT; rw [if_neg h1, if_neg h2, if_neg h3, if_neg h4, if_neg h5]
  rw [this]; rfl

set_option maxRecDepth 100000 in
theorem rhas_any (s : ByteArray) (ss : List (List UInt8)) (b n : Nat) (hn : ss.length = n) (hm : n ≤ 100) (w : World) (hc : ∀ i x, ss[i]? = some x → w.cell? ⟨b, i, none⟩ = some (.string (T x))) :
    Calls Tryd.prog 63 #[.string s, .slice (some ⟨b, 0, none⟩) n n] w fun e w' => e = .returned (.bool (ss.contains s.toList)) ∧ w = w' := by
  obtain ⟨R, hR⟩ : ∃ R, ss.contains s.toList = R := ⟨_, rfl⟩
  have HR := Lib.hid hR
  have HC := Lib.hid hc
  have HN := Lib.hid hn
  rw [hR]
  have hn0 : (n : Int) ≤ 100 := by omega
  clear hR hc hn hm
  go_enter Tryd.func63, Tryd.ntmps63
  go_wp2_with fail
  go_loopw [5] (fun i wr => ∃ j, j ≤ n ∧ i = .int .i64 (j : Int) ∧ (ss.drop j).contains s.toList = R ∧ wr = w) (fun i _ => n - (intOf i).toNat)
  case atStart => exact ⟨0, by omega, rfl, HR.out, rfl⟩
  case round =>
    obtain ⟨j, hj, rfl, hsd, rfl⟩ := hrel
    by_cases hlt : j < n
    · obtain ⟨x, hx⟩ : ∃ x, ss[j]? = some x := ⟨_, List.getElem?_eq_getElem (by rw [HN.out]; exact hlt)⟩
      have c0 := HC.out j x hx
      have hj0 : (j : Int) < (n : Int) := by omega
      rw [drop_get hx, List.contains_cons] at hsd
      have HJ := Lib.hid hlt
      obtain ⟨t, ht⟩ : ∃ t, T x = t := ⟨_, rfl⟩
      have hl : t.toList = x := by rw [← ht, Lib.toList_data]
      rw [ht] at c0
      rw [← hl] at hsd
      have HSD := Lib.hid hsd
      clear hsd hlt hj hx ht hl
      by_cases hq : s.toList = t.toList
      · have q1 : (s.toList == t.toList) = true := by rw [hq]; simp
        have q2 : (t.toList == s.toList) = true := by rw [hq]; simp
        have HF := Lib.hid (show true = R from by rw [← HSD.out, q1]; rfl)
        clear hq
        go_wp2_with fail
        go_ret
        exact ⟨ret_bool HF.out, rfl⟩
      · have q1 : (s.toList == t.toList) = false := list_ne hq
        have q2 : (t.toList == s.toList) = false := list_ne fun e => hq e.symm
        have HF := Lib.hid (show (ss.drop (j + 1)).contains s.toList = R from by rw [← HSD.out, q1]; rfl)
        clear hq
        go_wp2_with fail
        go_roundw
        case rel => exact ⟨j + 1, HJ.out, by go_num, HF.out, trivial⟩
        case measure => have := HJ.out; simp [intOf]; omega
    · obtain rfl : j = n := by omega
      have hj0 : ¬ (j : Int) < (j : Int) := by omega
      rw [List.drop_of_length_le (by rw [HN.out]; exact Nat.le_refl _)] at hsd
      have HE := Lib.hid (show false = R from hsd)
      clear hsd hlt hj
      go_wp2_with fail
      go_ret
      exact ⟨ret_bool HE.out, rfl⟩

theorem three_cells (w : World) (o p : Obj) (cs : List Value) (t : TypeId) : let W := ((w.alloc o).alloc p).alloc (.cells cs.toArray t)
    Below w.heap.size w W ∧ ∀ i u, cs[i]? = some u → W.cell? ⟨w.heap.size + 2, i, none⟩ = some u := by
  intro W
  refine ⟨(below_two w o p).alloc (by simp; omega) _, fun i u hu => ?_⟩
  have h := heap_alloc_new ((w.alloc o).alloc p) (.cells cs.toArray t)
  have e : ((w.alloc o).alloc p).heap.size = w.heap.size + 2 := by simp
  rw [e] at h
  rw [cell_plain h]
  simpa using hu

set_option maxHeartbeats 1000000 in
set_option maxRecDepth 100000 in
theorem rkid_any (n k : Nd) (i : Nat) (a1 a2 a3 a4 a5 c1 c2 c3 c4 : Value) (rp : Option Addr) (rc : Nat) (w : World) :
    Calls Tryd.prog 33 #[nodeV n a1 a2 a3 a4 a5, .int .i64 (i : Int), nodeV k c1 c2 c3 c4 (.slice rp k.redirs.length rc)] w fun e w' => e = .returned (.bool (takesT n i k)) ∧ Below w.heap.size w w' := by
  rw [kid_is]
  have HK := Lib.hid (show kidT n i k = _ from rfl)
  have HB2 := Lib.hid (fun o p => below_two w o p)
  have H3 := Lib.hid (fun o p => three_cells w o p)
  unfold nodeV txt
  have hno : (T n.op).toList = n.op := by rw [Lib.toList_data]
  have hko : (T k.op).toList = k.op := by rw [Lib.toList_data]
  have hE := empty_len k.redirs
  obtain ⟨R, hR⟩ : ∃ R, kidT n i k = R := ⟨_, rfl⟩
  rw [hR] at HK ⊢
  show Calls _ _ #[.agg #[.string (T n.op), .string (T n.name), a1, a2, a3, a4, a5], _, .agg #[.string (T k.op), .string (T k.name), c1, c2, c3, c4, _]] _ _
  obtain ⟨o, ho⟩ : ∃ o, T n.op = o := ⟨_, rfl⟩
  obtain ⟨p, hp⟩ : ∃ o, T k.op = o := ⟨_, rfl⟩
  rw [ho] at hno ⊢
  rw [hp] at hko ⊢
  have HK := Lib.hid (show R = (if o.toList = [115, 101, 113] then !(p.toList == [115, 101, 113])
    else if o.toList = [97, 110, 100] then !(p.toList == [115, 101, 113]) && (((i : Int) == 0) || (!(p.toList == [97, 110, 100]) && !(p.toList == [111, 114])))
    else if o.toList = [111, 114] then !(p.toList == [115, 101, 113]) && (((i : Int) == 0) || (!(p.toList == [97, 110, 100]) && !(p.toList == [111, 114])))
    else if o.toList = [110, 111, 116] then !([[115, 101, 113], [97, 110, 100], [111, 114], [110, 111, 116]] : List (List UInt8)).contains p.toList
    else if o.toList = [112, 105, 112, 101] then !([[115, 101, 113], [97, 110, 100], [111, 114], [110, 111, 116], [112, 105, 112, 101]] : List (List UInt8)).contains p.toList
    else if o.toList = [102, 117, 110] then (p.toList == [103, 114, 111, 117, 112] || p.toList == [115, 117, 98]) && k.redirs.isEmpty
    else true) from by rw [hno, hko, ← hR]; rfl)
  obtain ⟨RL, hRL⟩ : ∃ L, k.redirs.length = L := ⟨_, rfl⟩
  obtain ⟨E, hEE⟩ : ∃ L, k.redirs.isEmpty = L := ⟨_, rfl⟩
  rw [hRL, hEE] at hE
  rw [hEE] at HK
  rw [hRL]
  generalize T n.name = xn
  generalize T k.name = xk
  clear hno hko ho hp hR hRL hEE
  by_cases h1 : o.toList = [115, 101, 113]
  · have q1 : (o.toList == [115, 101, 113]) = true := by rw [h1]; decide
    obtain ⟨s1, hs1⟩ : ∃ s, (p.toList == [115, 101, 113]) = s := ⟨_, rfl⟩
    have HF := Lib.hid (show (!s1) = R from by rw [HK.out, if_pos h1, hs1])
    clear h1 HK
    cases s1
    all_goals
      go_enter Tryd.func33, Tryd.ntmps33
      go_wp2_with fail
      go_ret
      exact ⟨ret_bool HF.out, HB2.out _ _⟩
  have q1 : (o.toList == [115, 101, 113]) = false := list_ne h1
  by_cases h23 : o.toList = [97, 110, 100] ∨ o.toList = [111, 114]
  · have hq : ((o.toList == [97, 110, 100]) = true) ∨ ((o.toList == [97, 110, 100]) = false ∧ (o.toList == [111, 114]) = true) := by
      rcases h23 with h | h <;> rw [h] <;> decide
    obtain ⟨s1, hs1⟩ : ∃ s, (p.toList == [115, 101, 113]) = s := ⟨_, rfl⟩
    obtain ⟨s2, hs2⟩ : ∃ s, (p.toList == [97, 110, 100]) = s := ⟨_, rfl⟩
    obtain ⟨s3, hs3⟩ : ∃ s, (p.toList == [111, 114]) = s := ⟨_, rfl⟩
    obtain ⟨s4, hs4⟩ : ∃ s, ((i : Int) == 0) = s := ⟨_, rfl⟩
    have HF := Lib.hid (show (!s1 && (s4 || (!s2 && !s3))) = R from by
      rw [HK.out, if_neg h1, hs1, hs2, hs3, hs4]
      rcases h23 with h | h
      · rw [if_pos h]
      · rw [if_neg (by rw [h]; decide), if_pos h])
    clear h1 HK h23
    rcases hq with q2 | ⟨q2, q3⟩
    all_goals
      cases s1 <;> cases s4 <;> cases s2
      all_goals
        go_enter Tryd.func33, Tryd.ntmps33
        go_wp2_with fail
        go_ret
        exact ⟨ret_bool (by first | exact HF.out | (rw [← HF.out]; simp)), HB2.out _ _⟩
  have h2 : ¬ o.toList = [97, 110, 100] := fun e => h23 (.inl e)
  have h3 : ¬ o.toList = [111, 114] := fun e => h23 (.inr e)
  have q2 : (o.toList == [97, 110, 100]) = false := list_ne h2
  have q3 : (o.toList == [111, 114]) = false := list_ne h3
  by_cases h4 : o.toList = [110, 111, 116]
  · have q4 : (o.toList == [110, 111, 116]) = true := by rw [h4]; decide
    obtain ⟨S, hS⟩ : ∃ S, ([[115, 101, 113], [97, 110, 100], [111, 114], [110, 111, 116]] : List (List UInt8)).contains p.toList = S := ⟨_, rfl⟩
    have HF := Lib.hid (show (!S) = R from by rw [HK.out, if_neg h1, if_neg h2, if_neg h3, if_pos h4, hS])
    have HS := Lib.hid hS
    clear h1 h2 h3 h4 h23 HK hS
    go_enter Tryd.func33, Tryd.ntmps33
    go_wp2_with fail
    refine (show Calls _ _ _ _ _ from ?_)
    obtain ⟨g1, g2⟩ := H3.out (.cells #[.string o, .string xn, a1, a2, a3, a4, a5] 49) (.cells #[.string p, .string xk, c1, c2, c3, c4, .slice rp RL rc] 49) [.string ⟨#[115, 101, 113]⟩, .string ⟨#[97, 110, 100]⟩, .string ⟨#[111, 114]⟩, .string ⟨#[110, 111, 116]⟩] 9
    have HG := Lib.hid g1
    refine (rhas_any p [[115, 101, 113], [97, 110, 100], [111, 114], [110, 111, 116]] (w.heap.size + 2) 4 rfl (by decide) _ (fun i x hx => g2 i (.string (T x)) (by
      match i, hx with
      | 0, hx => obtain rfl := Option.some.inj hx; rfl
      | 1, hx => obtain rfl := Option.some.inj hx; rfl
      | 2, hx => obtain rfl := Option.some.inj hx; rfl
      | 3, hx => obtain rfl := Option.some.inj hx; rfl
      | i + 4, hx => simp at hx))).mono ?_
    rintro e w2 ⟨rfl, rfl⟩
    rw [HS.out]
    clear g1 g2
    go_wp2_with fail
    go_ret
    exact ⟨ret_bool HF.out, HG.out⟩
  have q4 : (o.toList == [110, 111, 116]) = false := list_ne h4
  by_cases h5 : o.toList = [112, 105, 112, 101]
  · have q5 : (o.toList == [112, 105, 112, 101]) = true := by rw [h5]; decide
    obtain ⟨S, hS⟩ : ∃ S, ([[115, 101, 113], [97, 110, 100], [111, 114], [110, 111, 116], [112, 105, 112, 101]] : List (List UInt8)).contains p.toList = S := ⟨_, rfl⟩
    have HF := Lib.hid (show (!S) = R from by rw [HK.out, if_neg h1, if_neg h2, if_neg h3, if_neg h4, if_pos h5, hS])
    have HS := Lib.hid hS
    clear h1 h2 h3 h4 h5 h23 HK hS
    go_enter Tryd.func33, Tryd.ntmps33
    go_wp2_with fail
    obtain ⟨g1, g2⟩ := H3.out (.cells #[.string o, .string xn, a1, a2, a3, a4, a5] 49) (.cells #[.string p, .string xk, c1, c2, c3, c4, .slice rp RL rc] 49) [.string ⟨#[115, 101, 113]⟩, .string ⟨#[97, 110, 100]⟩, .string ⟨#[111, 114]⟩, .string ⟨#[110, 111, 116]⟩, .string ⟨#[112, 105, 112, 101]⟩] 9
    have HG := Lib.hid g1
    refine (rhas_any p [[115, 101, 113], [97, 110, 100], [111, 114], [110, 111, 116], [112, 105, 112, 101]] (w.heap.size + 2) 5 rfl (by decide) _ (fun i x hx => g2 i (.string (T x)) (by
      match i, hx with
      | 0, hx => obtain rfl := Option.some.inj hx; rfl
      | 1, hx => obtain rfl := Option.some.inj hx; rfl
      | 2, hx => obtain rfl := Option.some.inj hx; rfl
      | 3, hx => obtain rfl := Option.some.inj hx; rfl
      | 4, hx => obtain rfl := Option.some.inj hx; rfl
      | i + 5, hx => simp at hx))).mono ?_
    rintro e w2 ⟨rfl, rfl⟩
    rw [HS.out]
    clear g1 g2
    go_wp2_with fail
    go_ret
    exact ⟨ret_bool HF.out, HG.out⟩
  have q5 : (o.toList == [112, 105, 112, 101]) = false := list_ne h5
  by_cases h6 : o.toList = [102, 117, 110]
  · have q6 : (o.toList == [102, 117, 110]) = true := by rw [h6]; decide
    obtain ⟨s1, hs1⟩ : ∃ s, (p.toList == [103, 114, 111, 117, 112]) = s := ⟨_, rfl⟩
    obtain ⟨s2, hs2⟩ : ∃ s, (p.toList == [115, 117, 98]) = s := ⟨_, rfl⟩
    have HF := Lib.hid (show ((s1 || s2) && E) = R from by rw [HK.out, if_neg h1, if_neg h2, if_neg h3, if_neg h4, if_neg h5, if_pos h6, hs1, hs2])
    clear h1 h2 h3 h4 h5 h6 h23 HK
    cases s1 <;> cases s2
    all_goals
      go_enter Tryd.func33, Tryd.ntmps33
      go_wp2_with fail
      go_ret
      exact ⟨ret_bool (by first | exact HF.out | (rw [← HF.out]; simp)), HB2.out _ _⟩
  have q6 : (o.toList == [102, 117, 110]) = false := list_ne h6
  have HF := Lib.hid (show true = R from by rw [HK.out, if_neg h1, if_neg h2, if_neg h3, if_neg h4, if_neg h5, if_neg h6])
  clear h1 h2 h3 h4 h5 h6 h23 HK
  go_enter Tryd.func33, Tryd.ntmps33
  go_wp2_with fail
  go_ret
  exact ⟨ret_bool HF.out, HB2.out _ _⟩
end Go.Proofs.YtloaalapkmbgeaaDoor

namespace Go.Proofs.YtloaalapkmbgeaaDoor
open Go Go.RowKit GlyphMath LexMath TreeMath

theorem stay7 {W W' : World} {a0 a1 a2 a3 a4 a5 a6 : Addr} {v0 v1 v2 v3 v4 v5 v6 : Value} (h : W.cell? a0 = some v0 ∧ W.cell? a1 = some v1 ∧ W.cell? a2 = some v2 ∧ W.cell? a3 = some v3 ∧ W.cell? a4 = some v4 ∧ W.cell? a5 = some v5 ∧ W.cell? a6 = some v6) (hb : Below W.heap.size W W') :
    W'.cell? a0 = some v0 ∧ W'.cell? a1 = some v1 ∧ W'.cell? a2 = some v2 ∧ W'.cell? a3 = some v3 ∧ W'.cell? a4 = some v4 ∧ W'.cell? a5 = some v5 ∧ W'.cell? a6 = some v6 :=
  ⟨cell_below h.1 hb, cell_below h.2.1 hb, cell_below h.2.2.1 hb, cell_below h.2.2.2.1 hb, cell_below h.2.2.2.2.1 hb, cell_below h.2.2.2.2.2.1 hb, cell_below h.2.2.2.2.2.2 hb⟩
theorem stayA {W W' : World} {a0 a1 a2 a3 a4 a5 a6 p0 p1 k0 : Addr} {v0 v1 v2 v3 v4 v5 v6 u0 u1 t0 : Value} (h : (W.cell? a0 = some v0 ∧ W.cell? a1 = some v1 ∧ W.cell? a2 = some v2 ∧ W.cell? a3 = some v3 ∧ W.cell? a4 = some v4 ∧ W.cell? a5 = some v5 ∧ W.cell? a6 = some v6) ∧ (W.cell? p0 = some u0 ∧ W.cell? p1 = some u1) ∧ W.cell? k0 = some t0) (hb : Below W.heap.size W W') :
    (W'.cell? a0 = some v0 ∧ W'.cell? a1 = some v1 ∧ W'.cell? a2 = some v2 ∧ W'.cell? a3 = some v3 ∧ W'.cell? a4 = some v4 ∧ W'.cell? a5 = some v5 ∧ W'.cell? a6 = some v6) ∧ (W'.cell? p0 = some u0 ∧ W'.cell? p1 = some u1) ∧ W'.cell? k0 = some t0 :=
  ⟨stay7 h.1 hb, ⟨cell_below h.2.1.1 hb, cell_below h.2.1.2 hb⟩, cell_below h.2.2 hb⟩
/-- What walk answers. -/
def rwalkV (m : Option Nat) : Int := match m with
  | some m => (m : Int)
  | none => -1
def RWalkDo (w0 : World) (np : Option Addr) (nc : Nat) (root : Int) (ns : List Nd) (f : Nat) : Prop := ∀ (a : Nat) (w : World), Below w0.heap.size w0 w → a < ns.length → ns.length - a ≤ f →
  Calls Tryd.prog 17 #[.agg #[.slice np ns.length nc, .int .i64 root], .int .i64 (a : Int)] w fun e w' => e = .returned (.int .i64 (rwalkV (rwalkT ns f a))) ∧ Below w.heap.size w w'

set_option linter.unusedSimpArgs false in
set_option maxHeartbeats 2000000 in
set_option maxRecDepth 100000 in
theorem rwalk_next {w0 : World} {np : Option Addr} {nc : Nat} {root : Int} {ns : List Nd} (hN : NsAt w0 (.slice np ns.length nc) ns) {f : Nat} (hD : RWalkDo w0 np nc root ns f) : RWalkDo w0 np nc root ns (f + 1) := by
  intro a w hb0 ha hf
  obtain ⟨n, hn⟩ : ∃ n, ns[a]? = some n := ⟨_, List.getElem?_eq_getElem ha⟩
  obtain ⟨bb, oo, rfl, kb, wp, pp, ap, rp, kc, wc, pc, ac, rc, hk, -, -, -, -, c0, c1, c2, c3, c4, c5, c6⟩ := hN.node hn
  obtain ⟨r, hr⟩ : ∃ r, rwalkT ns (f + 1) a = r := ⟨_, rfl⟩
  have HR := Lib.hid (show rkidsT (rwalkT ns f) ns n 0 n.kids (a + 1) = r from by rw [← hr, rwalkT, hn])
  rw [hr]
  have hfew := hN.few
  have hL0 : (ns.length : Int) ≤ 2 ^ 63 - 1 := by unfold maxLen at hfew; omega
  have hkf := hk.few
  have HND := Lib.hid (fun m x (hx : ns[m]? = some x) => hN.node hx)
  have HK := Lib.hid hk
  have HB0 := Lib.hid hb0
  have HDD := Lib.hid hD
  have HFA := Lib.hid (And.intro ha hf)
  obtain ⟨KL, hKL⟩ : ∃ L, n.kids.length = L := ⟨_, rfl⟩
  have HKL := Lib.hid hKL
  obtain ⟨WL, hWL⟩ : ∃ L, n.words.length = L := ⟨_, rfl⟩
  obtain ⟨PL, hPL⟩ : ∃ L, n.pats.length = L := ⟨_, rfl⟩
  obtain ⟨AL, hAL⟩ : ∃ L, n.assigns.length = L := ⟨_, rfl⟩
  obtain ⟨RL, hRL⟩ : ∃ L, n.redirs.length = L := ⟨_, rfl⟩
  obtain ⟨xo, hxo⟩ : ∃ L, T n.op = L := ⟨_, rfl⟩
  obtain ⟨xn, hxn⟩ : ∃ L, T n.name = L := ⟨_, rfl⟩
  rw [hxo] at c0
  rw [hxn] at c1
  rw [hKL] at c2 hkf HK
  rw [hWL] at c3
  rw [hPL] at c4
  rw [hAL] at c5
  rw [hRL] at c6
  have hK0 : (KL : Int) ≤ 2 ^ 63 - 1 := by unfold maxLen at hkf; omega
  have ha0 : (a : Int) < (ns.length : Int) := by omega
  have ha1 : (a : Int) + 1 ≤ 9223372036854775807 := by omega
  have HX := Lib.hid (show ∀ kv wv pv av rv, nodeV n kv wv pv av rv = .agg #[.string xo, .string xn, kv, wv, pv, av, rv] from fun kv wv pv av rv => by rw [← hxo, ← hxn]; rfl)
  have HBP := Lib.hid (fun x => below_one w x)
  have HBT := Lib.hid (fun x y => below_two w x y)
  have hq := stay7 (stay7 ⟨c0, c1, c2, c3, c4, c5, c6⟩ hb0) (HBP.out (.cells #[.slice (some ⟨bb, oo, none⟩) ns.length nc, .int .i64 root] 24))
  obtain ⟨d0, d1, d2, d3, d4, d5, d6⟩ := hq
  have h3 := fun q : Obj => heap_alloc_two w (.cells #[.slice (some ⟨bb, oo, none⟩) ns.length nc, .int .i64 root] 24) q
  have h4 := heap_alloc_last w (.cells #[.slice (some ⟨bb, oo, none⟩) ns.length nc, .int .i64 root] 24) (.cells #[.string xo, .string xn, .slice kb KL kc, .slice wp WL wc, .slice pp PL pc, .slice ap AL ac, .slice rp RL rc] 49)
  have H34 := Lib.hid (And.intro (h3 (.cells #[.string xo, .string xn, .slice kb KL kc, .slice wp WL wc, .slice pp PL pc, .slice ap AL ac, .slice rp RL rc] 49)) h4)
  clear hN hb0 ha hf hn hk hr hfew hD hKL hWL hPL hAL hRL hxo hxn hkf c0 c1 c2 c3 c4 c5 c6 h3 h4
  go_enter Tryd.func17, Tryd.ntmps17
  go_wp2_with fail
  obtain ⟨w1, hw1⟩ : ∃ w1, (w.alloc (.cells #[.slice (some ⟨bb, oo, none⟩) ns.length nc, .int .i64 root] 24)).alloc (.cells #[.string xo, .string xn, .slice kb KL kc, .slice wp WL wc, .slice pp PL pc, .slice ap AL ac, .slice rp RL rc] 49) = w1 := ⟨_, rfl⟩
  have HB1 := Lib.hid (show Below w.heap.size w w1 by rw [← hw1]; exact HBT.out _ _)
  have HPN := Lib.hid (show (w1.cell? ⟨w.heap.size + 1, 0, none⟩ = some (.string xo) ∧ w1.cell? ⟨w.heap.size + 1, 1, none⟩ = some (.string xn) ∧ w1.cell? ⟨w.heap.size + 1, 2, none⟩ = some (.slice kb KL kc) ∧ w1.cell? ⟨w.heap.size + 1, 3, none⟩ = some (.slice wp WL wc) ∧ w1.cell? ⟨w.heap.size + 1, 4, none⟩ = some (.slice pp PL pc) ∧ w1.cell? ⟨w.heap.size + 1, 5, none⟩ = some (.slice ap AL ac) ∧ w1.cell? ⟨w.heap.size + 1, 6, none⟩ = some (.slice rp RL rc)) ∧ w1.cell? ⟨w.heap.size, 0, none⟩ = some (.slice (some ⟨bb, oo, none⟩) ns.length nc) ∧ w1.cell? ⟨w.heap.size, 1, none⟩ = some (.int .i64 root) from by
    rw [← hw1]
    exact ⟨⟨cell_plain H34.out.2 0, cell_plain H34.out.2 1, cell_plain H34.out.2 2, cell_plain H34.out.2 3, cell_plain H34.out.2 4, cell_plain H34.out.2 5, cell_plain H34.out.2 6⟩, cell_plain H34.out.1 0, cell_plain H34.out.1 1⟩)
  rw [hw1]
  clear hw1 d0 d1 d2 d3 d4 d5 d6 HBP HBT H34
  go_loopw [5, 7] (fun nx i wr => ∃ j m : Nat, j ≤ KL ∧ i = .int .i64 (j : Int) ∧ nx = .int .i64 (m : Int) ∧ a < m ∧ Below w1.heap.size w1 wr ∧ rkidsT (rwalkT ns f) ns n j (n.kids.drop j) m = r) (fun _ i _ => KL - (intOf i).toNat)
  case atStart => exact ⟨0, a + 1, by omega, rfl, by go_num, by omega, Below.refl _ _, by rw [List.drop_zero]; exact HR.out⟩
  case round =>
    obtain ⟨j, m, hj, rfl, rfl, ham, hb, hsd⟩ := hrel
    have HB := Lib.hid hb
    have HQN := Lib.hid (stay7 HPN.out.1 hb)
    have HQP := Lib.hid (And.intro (cell_below HPN.out.2.1 hb) (cell_below HPN.out.2.2 hb))
    have HW0 := Lib.hid (HB1.out.trans (hb.mono HB1.out.size))
    have HW00 := Lib.hid (HB0.out.trans (HW0.out.mono HB0.out.size))
    by_cases hlt : j < KL
    · obtain ⟨kk, hkk⟩ : ∃ x, n.kids[j]? = some x := ⟨_, List.getElem?_eq_getElem (by rw [HKL.out]; exact hlt)⟩
      obtain ⟨kbb, ko, rfl⟩ := SlAt.ptr HK.out hkk
      obtain ⟨cs, rfl, hcc⟩ := SlAt.cell HK.out rfl hkk
      have kc0 : wr.cell? ⟨kbb, ko + j, none⟩ = some (.int .i64 kk) := by
        have := cell_below (hcc 0 _ rfl) HW00.out
        rwa [show ko + j * 1 + 0 = ko + j by omega] at this
      have HSA := Lib.hid (And.intro HQN.out (And.intro HQP.out kc0))
      have hj0 : (j : Int) < (KL : Int) := by omega
      have HJ := Lib.hid hlt
      have HAM := Lib.hid ham
      rw [drop_get hkk, rkidsT] at hsd
      have HSD := Lib.hid hsd
      obtain ⟨n0, n1, n2, n3, n4, n5, n6⟩ := HQN.out
      obtain ⟨p0, p1⟩ := HQP.out
      clear hb hlt hj hkk hcc hsd ham
      by_cases hkm : kk = (m : Int)
      · subst hkm
        by_cases hml : m < ns.length
        · obtain ⟨y, hy⟩ : ∃ y, ns[m]? = some y := ⟨_, List.getElem?_eq_getElem hml⟩
          obtain ⟨bb2, oo2, hpo, kp2, wp2, pp2, ap2, rp2, kc2, wc2, pc2, ac2, rc2, -, -, -, -, -, e0, e1, e2, e3, e4, e5, e6⟩ := HND.out m y hy
          obtain ⟨rfl, rfl⟩ : bb = bb2 ∧ oo = oo2 := by
            simp only [Option.some.injEq, Addr.mk.injEq, and_true] at hpo
            exact hpo
          have HQM := Lib.hid (stay7 ⟨e0, e1, e2, e3, e4, e5, e6⟩ HW00.out)
          have hkid := fun W => rkid_any n y j (.slice (some ⟨kbb, ko, none⟩) KL kc) (.slice wp WL wc) (.slice pp PL pc) (.slice ap AL ac) (.slice rp RL rc) (.slice kp2 y.kids.length kc2) (.slice wp2 y.words.length wc2) (.slice pp2 y.pats.length pc2) (.slice ap2 y.assigns.length ac2) rp2 rc2 W
          obtain ⟨TK, hTK⟩ : ∃ t, takesT n j y = t := ⟨_, rfl⟩
          have HNX := Lib.hid (show (if TK = true then match rwalkT ns f m with | none => none | some m' => rkidsT (rwalkT ns f) ns n (j + 1) (n.kids.drop (j + 1)) m' else none) = r from by
            have := HSD.out
            rw [if_pos rfl, hy] at this
            simp only at this
            rwa [hTK] at this)
          rw [hTK] at hkid
          unfold nodeV at hkid
          obtain ⟨KL2, hKL2⟩ : ∃ L, y.kids.length = L := ⟨_, rfl⟩
          obtain ⟨WL2, hWL2⟩ : ∃ L, y.words.length = L := ⟨_, rfl⟩
          obtain ⟨PL2, hPL2⟩ : ∃ L, y.pats.length = L := ⟨_, rfl⟩
          obtain ⟨AL2, hAL2⟩ : ∃ L, y.assigns.length = L := ⟨_, rfl⟩
          obtain ⟨RL2, hRL2⟩ : ∃ L, y.redirs.length = L := ⟨_, rfl⟩
          obtain ⟨yo, hyo⟩ : ∃ L, T y.op = L := ⟨_, rfl⟩
          obtain ⟨yn, hyn⟩ : ∃ L, T y.name = L := ⟨_, rfl⟩
          have HKD := Lib.hid (show Calls Tryd.prog 33 #[.agg #[.string xo, .string xn, .slice (some ⟨kbb, ko, none⟩) KL kc, .slice wp WL wc, .slice pp PL pc, .slice ap AL ac, .slice rp RL rc], .int .i64 (j : Int), .agg #[.string yo, .string yn, .slice kp2 KL2 kc2, .slice wp2 WL2 wc2, .slice pp2 PL2 pc2, .slice ap2 AL2 ac2, .slice rp2 RL2 rc2]] wr.drew fun e w' => e = .returned (.bool TK) ∧ Below wr.drew.heap.size wr.drew w' from by
            have := hkid wr.drew
            have e := HX.out (.slice (some ⟨kbb, ko, none⟩) KL kc) (.slice wp WL wc) (.slice pp PL pc) (.slice ap AL ac) (.slice rp RL rc)
            unfold nodeV at e
            rw [e, hKL2, hWL2, hPL2, hAL2, hRL2] at this
            rw [← hyo, ← hyn]
            exact this)
          have HSB := Lib.hid (And.intro HSA.out (show wr.cell? ⟨bb, oo + m * 7, none⟩ = some (.string yo) ∧ wr.cell? ⟨bb, oo + m * 7 + 1, none⟩ = some (.string yn) ∧ wr.cell? ⟨bb, oo + m * 7 + 2, none⟩ = some (.slice kp2 KL2 kc2) ∧ wr.cell? ⟨bb, oo + m * 7 + 3, none⟩ = some (.slice wp2 WL2 wc2) ∧ wr.cell? ⟨bb, oo + m * 7 + 4, none⟩ = some (.slice pp2 PL2 pc2) ∧ wr.cell? ⟨bb, oo + m * 7 + 5, none⟩ = some (.slice ap2 AL2 ac2) ∧ wr.cell? ⟨bb, oo + m * 7 + 6, none⟩ = some (.slice rp2 RL2 rc2) from by
            rw [← hyo, ← hyn, ← hKL2, ← hWL2, ← hPL2, ← hAL2, ← hRL2]; exact HQM.out))
          obtain ⟨m0, m1, m2, m3, m4, m5, m6⟩ := HSB.out.2
          have HML := Lib.hid hml
          have hmi : (m : Int) < (ns.length : Int) := by omega
          have hmn : decide (ns.length ≤ m) = false := decide_eq_false (by omega)
          have hmn2 : decide ((ns.length : Int) ≤ (m : Int)) = false := decide_eq_false (by omega)
          have hm0 : (0 : Int) ≤ (m : Int) := by omega
          have hne : ((m : Int) != (m : Int)) = false := by simp
          have HDM := Lib.hid (fun W (hW : Below w0.heap.size w0 W) => HDD.out m W hW HML.out (by have := HFA.out; have := HAM.out; omega))
          clear hkid hTK hKL2 hWL2 hPL2 hAL2 hRL2 hyo hyn e0 e1 e2 e3 e4 e5 e6 hpo hy hml
          cases TK with
          | false =>
            have HF := Lib.hid (show none = r from HNX.out)
            go_wp2_with fail
            refine wp_region_held_drew (S := (fun W => ((W.cell? ⟨w.heap.size + 1, 0, none⟩ = some (.string xo) ∧ W.cell? ⟨w.heap.size + 1, 1, none⟩ = some (.string xn) ∧ W.cell? ⟨w.heap.size + 1, 2, none⟩ = some (.slice (some ⟨kbb, ko, none⟩) KL kc) ∧ W.cell? ⟨w.heap.size + 1, 3, none⟩ = some (.slice wp WL wc) ∧ W.cell? ⟨w.heap.size + 1, 4, none⟩ = some (.slice pp PL pc) ∧ W.cell? ⟨w.heap.size + 1, 5, none⟩ = some (.slice ap AL ac) ∧ W.cell? ⟨w.heap.size + 1, 6, none⟩ = some (.slice rp RL rc)) ∧ (W.cell? ⟨w.heap.size, 0, none⟩ = some (.slice (some ⟨bb, oo, none⟩) ns.length nc) ∧ W.cell? ⟨w.heap.size, 1, none⟩ = some (.int .i64 root)) ∧ W.cell? ⟨kbb, ko + j, none⟩ = some (.int .i64 (m : Int))) ∧ (W.cell? ⟨bb, oo + m * 7, none⟩ = some (.string yo) ∧ W.cell? ⟨bb, oo + m * 7 + 1, none⟩ = some (.string yn) ∧ W.cell? ⟨bb, oo + m * 7 + 2, none⟩ = some (.slice kp2 KL2 kc2) ∧ W.cell? ⟨bb, oo + m * 7 + 3, none⟩ = some (.slice wp2 WL2 wc2) ∧ W.cell? ⟨bb, oo + m * 7 + 4, none⟩ = some (.slice pp2 PL2 pc2) ∧ W.cell? ⟨bb, oo + m * 7 + 5, none⟩ = some (.slice ap2 AL2 ac2) ∧ W.cell? ⟨bb, oo + m * 7 + 6, none⟩ = some (.slice rp2 RL2 rc2)))) (by kernel_rfl) ?_ (fun hHeld => ?_)
            · exact HSB.out
            refine takeW (i := 0) (k := 22) (v := ?_) rfl (by kernel_rfl) (by kernel_rfl) (by kernel_rfl) (by kernel_rfl) (fun _ _ _ h => h) (by rfl) ?_ (by assumption) ?_
            rotate_left
            · intro w hSw; (try dsimp only at hSw); go_simp <;> (with_reducible rfl)
            simp only [List.setIfInBounds_toArray, List.set_cons_zero, List.set_cons_succ]
            refine takeW (i := 1) (k := 23) (v := ?_) rfl (by kernel_rfl) (by kernel_rfl) (by kernel_rfl) (by kernel_rfl) (fun _ _ _ h => h) (by rfl) ?_ (by assumption) ?_
            rotate_left
            · intro w hSw; (try dsimp only at hSw); go_simp <;> (with_reducible rfl)
            simp only [List.setIfInBounds_toArray, List.set_cons_zero, List.set_cons_succ]
            refine takeW (i := 2) (k := 24) (v := ?_) rfl (by kernel_rfl) (by kernel_rfl) (by kernel_rfl) (by kernel_rfl) (fun _ _ _ h => h) (by rfl) ?_ (by assumption) ?_
            rotate_left
            · intro w hSw; (try dsimp only at hSw); go_simp <;> (with_reducible rfl)
            simp only [List.setIfInBounds_toArray, List.set_cons_zero, List.set_cons_succ]
            refine takeW (i := 3) (k := 25) (v := ?_) rfl (by kernel_rfl) (by kernel_rfl) (by kernel_rfl) (by kernel_rfl) (fun _ _ _ h => h) (by rfl) ?_ (by assumption) ?_
            rotate_left
            · intro w hSw; (try dsimp only at hSw); go_simp <;> (with_reducible rfl)
            simp only [List.setIfInBounds_toArray, List.set_cons_zero, List.set_cons_succ]
            refine takeW (i := 4) (k := 26) (v := ?_) rfl (by kernel_rfl) (by kernel_rfl) (by kernel_rfl) (by kernel_rfl) (fun _ _ _ h => h) (by rfl) ?_ (by assumption) ?_
            rotate_left
            · intro w hSw; (try dsimp only at hSw); go_simp <;> (with_reducible rfl)
            simp only [List.setIfInBounds_toArray, List.set_cons_zero, List.set_cons_succ]
            refine takeW (i := 5) (k := 27) (v := ?_) rfl (by kernel_rfl) (by kernel_rfl) (by kernel_rfl) (by kernel_rfl) (fun _ _ _ h => h) (by rfl) ?_ (by assumption) ?_
            rotate_left
            · intro w hSw; (try dsimp only at hSw); go_simp <;> (with_reducible rfl)
            simp only [List.setIfInBounds_toArray, List.set_cons_zero, List.set_cons_succ]
            refine takeW (i := 6) (k := 28) (v := ?_) rfl (by kernel_rfl) (by kernel_rfl) (by kernel_rfl) (by kernel_rfl) (fun _ _ _ h => h) (by rfl) ?_ (by assumption) ?_
            rotate_left
            · intro w hSw; (try dsimp only at hSw); go_simp <;> (with_reducible rfl)
            simp only [List.setIfInBounds_toArray, List.set_cons_zero, List.set_cons_succ]
            refine takeW (i := 7) (k := 29) (v := ?_) rfl (by kernel_rfl) (by kernel_rfl) (by kernel_rfl) (by kernel_rfl) (fun _ _ _ h => h) (by rfl) ?_ (by assumption) ?_
            rotate_left
            · intro w hSw; (try dsimp only at hSw); go_simp <;> (with_reducible rfl)
            simp only [List.setIfInBounds_toArray, List.set_cons_zero, List.set_cons_succ]
            refine takeW (i := 8) (k := 30) (v := ?_) rfl (by kernel_rfl) (by kernel_rfl) (by kernel_rfl) (by kernel_rfl) (fun _ _ _ h => h) (by rfl) ?_ (by assumption) ?_
            rotate_left
            · intro w hSw; (try dsimp only at hSw); go_simp <;> (with_reducible rfl)
            simp only [List.setIfInBounds_toArray, List.set_cons_zero, List.set_cons_succ]
            refine takeW (i := 9) (k := 31) (v := ?_) rfl (by kernel_rfl) (by kernel_rfl) (by kernel_rfl) (by kernel_rfl) (fun _ _ _ h => h) (by rfl) ?_ (by assumption) ?_
            rotate_left
            · intro w hSw; (try dsimp only at hSw); go_simp <;> (with_reducible rfl)
            simp only [List.setIfInBounds_toArray, List.set_cons_zero, List.set_cons_succ]
            refine takeW (i := 10) (k := 32) (v := ?_) rfl (by kernel_rfl) (by kernel_rfl) (by kernel_rfl) (by kernel_rfl) (fun _ _ _ h => h) (by rfl) ?_ (by assumption) ?_
            rotate_left
            · intro w hSw; (try dsimp only at hSw); go_simp <;> (with_reducible rfl)
            simp only [List.setIfInBounds_toArray, List.set_cons_zero, List.set_cons_succ]
            refine takeW (i := 11) (k := 33) (v := ?_) rfl (by kernel_rfl) (by kernel_rfl) (by kernel_rfl) (by kernel_rfl) (fun _ _ _ h => h) (by rfl) ?_ (by assumption) ?_
            rotate_left
            · intro w hSw; (try dsimp only at hSw); go_simp <;> (with_reducible rfl)
            simp only [List.setIfInBounds_toArray, List.set_cons_zero, List.set_cons_succ]
            refine takeW (i := 12) (k := 34) (v := ?_) rfl (by kernel_rfl) (by kernel_rfl) (by kernel_rfl) (by kernel_rfl) (fun _ _ _ h => h) (by rfl) ?_ (by assumption) ?_
            rotate_left
            · intro w hSw; (try dsimp only at hSw); go_simp <;> (with_reducible rfl)
            simp only [List.setIfInBounds_toArray, List.set_cons_zero, List.set_cons_succ]
            refine takeW (i := 13) (k := 35) (v := ?_) rfl (by kernel_rfl) (by kernel_rfl) (by kernel_rfl) (by kernel_rfl) (fun _ _ _ h => h) (by rfl) ?_ (by assumption) ?_
            rotate_left
            · intro w hSw; (try dsimp only at hSw); go_simp <;> (with_reducible rfl)
            simp only [List.setIfInBounds_toArray, List.set_cons_zero, List.set_cons_succ]
            refine takeW (i := 14) (k := 36) (v := ?_) rfl (by kernel_rfl) (by kernel_rfl) (by kernel_rfl) (by kernel_rfl) (fun _ _ _ h => h) (by rfl) ?_ (by assumption) ?_
            rotate_left
            · intro w hSw; (try dsimp only at hSw); go_simp <;> (with_reducible rfl)
            simp only [List.setIfInBounds_toArray, List.set_cons_zero, List.set_cons_succ]
            refine takeW (i := 15) (k := 37) (v := ?_) rfl (by kernel_rfl) (by kernel_rfl) (by kernel_rfl) (by kernel_rfl) (fun _ _ _ h => h) (by rfl) ?_ (by assumption) ?_
            rotate_left
            · intro w hSw; (try dsimp only at hSw); go_simp <;> (with_reducible rfl)
            simp only [List.setIfInBounds_toArray, List.set_cons_zero, List.set_cons_succ]
            refine takeW (i := 16) (k := 38) (v := ?_) rfl (by kernel_rfl) (by kernel_rfl) (by kernel_rfl) (by kernel_rfl) (fun _ _ _ h => h) (by rfl) ?_ (by assumption) ?_
            rotate_left
            · intro w hSw; (try dsimp only at hSw); go_simp <;> (with_reducible rfl)
            simp only [List.setIfInBounds_toArray, List.set_cons_zero, List.set_cons_succ]
            refine takeW (i := 17) (k := 39) (v := ?_) rfl (by kernel_rfl) (by kernel_rfl) (by kernel_rfl) (by kernel_rfl) (fun _ _ _ h => h) (by rfl) ?_ (by assumption) ?_
            rotate_left
            · intro w hSw; (try dsimp only at hSw); go_simp <;> (with_reducible rfl)
            simp only [List.setIfInBounds_toArray, List.set_cons_zero, List.set_cons_succ]
            refine takeW (i := 18) (k := 40) (v := ?_) rfl (by kernel_rfl) (by kernel_rfl) (by kernel_rfl) (by kernel_rfl) (fun _ _ _ h => h) (by rfl) ?_ (by assumption) ?_
            rotate_left
            · intro w hSw; (try dsimp only at hSw); go_simp <;> (with_reducible rfl)
            simp only [List.setIfInBounds_toArray, List.set_cons_zero, List.set_cons_succ]
            refine takeW (i := 19) (k := 41) (v := ?_) rfl (by kernel_rfl) (by kernel_rfl) (by kernel_rfl) (by kernel_rfl) (fun _ _ _ h => h) (by rfl) ?_ (by assumption) ?_
            rotate_left
            · intro w hSw; (try dsimp only at hSw); go_simp <;> (with_reducible rfl)
            simp only [List.setIfInBounds_toArray, List.set_cons_zero, List.set_cons_succ]
            refine takeW (i := 20) (k := 42) (v := ?_) rfl (by kernel_rfl) (by kernel_rfl) (by kernel_rfl) (by kernel_rfl) (fun _ _ _ h => h) (by rfl) ?_ (by assumption) ?_
            rotate_left
            · intro w hSw; (try dsimp only at hSw); go_simp <;> (with_reducible rfl)
            simp only [List.setIfInBounds_toArray, List.set_cons_zero, List.set_cons_succ]
            refine takeW (i := 21) (k := 43) (v := ?_) rfl (by kernel_rfl) (by kernel_rfl) (by kernel_rfl) (by kernel_rfl) (fun _ _ _ h => h) (by rfl) ?_ (by assumption) ?_
            rotate_left
            · intro w hSw; (try dsimp only at hSw); go_simp <;> (with_reducible rfl)
            simp only [List.setIfInBounds_toArray, List.set_cons_zero, List.set_cons_succ]
            refine wpAnyH_ready (rs := [22]) (by kernel_rfl) (by simp) ?_
            refine AllReadyH.cons rfl (fun K hK => ?_) ?_
            rotate_left
            · exact AllReadyH.nil
            go_simp
            go_wp2_with ((go_at_call 33; refine HKD.out.mono ?_; rintro e w2 ⟨rfl, hb⟩; have HB2 := Lib.hid ((below_drew1 wr.heap.size wr).trans hb); have HPC := Lib.hid (And.intro (stayA HSB.out.1 HB2.out) (stay7 HSB.out.2 HB2.out)); clear hb))
            refine hK.out _ _ ?_ (fun hHeld => ?_)
            · exact HPC.out
            clear hK K
            refine takeW (i := 23) (k := 45) (v := ?_) rfl (by kernel_rfl) (by kernel_rfl) (by kernel_rfl) (by kernel_rfl) (fun _ _ _ h => h) (by rfl) ?_ (by assumption) ?_
            rotate_left
            · intro w hSw; (try dsimp only at hSw); go_simp <;> (with_reducible rfl)
            simp only [List.setIfInBounds_toArray, List.set_cons_zero, List.set_cons_succ]
            refine takeW (i := 24) (k := 46) (v := ?_) rfl (by kernel_rfl) (by kernel_rfl) (by kernel_rfl) (by kernel_rfl) (fun _ _ _ h => h) (by rfl) ?_ (by assumption) ?_
            rotate_left
            · intro w hSw; (try dsimp only at hSw); go_simp <;> (with_reducible rfl)
            simp only [List.setIfInBounds_toArray, List.set_cons_zero, List.set_cons_succ]
            refine wpAnyH_done (by kernel_rfl) ?_ _
            go_wp2_with fail
            go_ret
            exact ⟨by rw [← HF.out]; rfl, HW0.out.trans (HB2.out.mono HW0.out.size)⟩
          | true =>
            have HNX := Lib.hid (show (match rwalkT ns f m with | none => none | some m' => rkidsT (rwalkT ns f) ns n (j + 1) (n.kids.drop (j + 1)) m') = r from HNX.out)
            have HLT := Lib.hid (fun m' (h : rwalkT ns f m = some m') => rwalk_lt f m m' h)
            obtain ⟨Z, hZ⟩ : ∃ Z, rwalkT ns f m = Z := ⟨_, rfl⟩
            rw [hZ] at HDM HNX HLT
            clear hZ
            go_wp2_with fail
            refine wp_region_held_drew (S := (fun W => ((W.cell? ⟨w.heap.size + 1, 0, none⟩ = some (.string xo) ∧ W.cell? ⟨w.heap.size + 1, 1, none⟩ = some (.string xn) ∧ W.cell? ⟨w.heap.size + 1, 2, none⟩ = some (.slice (some ⟨kbb, ko, none⟩) KL kc) ∧ W.cell? ⟨w.heap.size + 1, 3, none⟩ = some (.slice wp WL wc) ∧ W.cell? ⟨w.heap.size + 1, 4, none⟩ = some (.slice pp PL pc) ∧ W.cell? ⟨w.heap.size + 1, 5, none⟩ = some (.slice ap AL ac) ∧ W.cell? ⟨w.heap.size + 1, 6, none⟩ = some (.slice rp RL rc)) ∧ (W.cell? ⟨w.heap.size, 0, none⟩ = some (.slice (some ⟨bb, oo, none⟩) ns.length nc) ∧ W.cell? ⟨w.heap.size, 1, none⟩ = some (.int .i64 root)) ∧ W.cell? ⟨kbb, ko + j, none⟩ = some (.int .i64 (m : Int))) ∧ (W.cell? ⟨bb, oo + m * 7, none⟩ = some (.string yo) ∧ W.cell? ⟨bb, oo + m * 7 + 1, none⟩ = some (.string yn) ∧ W.cell? ⟨bb, oo + m * 7 + 2, none⟩ = some (.slice kp2 KL2 kc2) ∧ W.cell? ⟨bb, oo + m * 7 + 3, none⟩ = some (.slice wp2 WL2 wc2) ∧ W.cell? ⟨bb, oo + m * 7 + 4, none⟩ = some (.slice pp2 PL2 pc2) ∧ W.cell? ⟨bb, oo + m * 7 + 5, none⟩ = some (.slice ap2 AL2 ac2) ∧ W.cell? ⟨bb, oo + m * 7 + 6, none⟩ = some (.slice rp2 RL2 rc2)))) (by kernel_rfl) ?_ (fun hHeld => ?_)
            · exact HSB.out
            refine takeW (i := 0) (k := 22) (v := ?_) rfl (by kernel_rfl) (by kernel_rfl) (by kernel_rfl) (by kernel_rfl) (fun _ _ _ h => h) (by rfl) ?_ (by assumption) ?_
            rotate_left
            · intro w hSw; (try dsimp only at hSw); go_simp <;> (with_reducible rfl)
            simp only [List.setIfInBounds_toArray, List.set_cons_zero, List.set_cons_succ]
            refine takeW (i := 1) (k := 23) (v := ?_) rfl (by kernel_rfl) (by kernel_rfl) (by kernel_rfl) (by kernel_rfl) (fun _ _ _ h => h) (by rfl) ?_ (by assumption) ?_
            rotate_left
            · intro w hSw; (try dsimp only at hSw); go_simp <;> (with_reducible rfl)
            simp only [List.setIfInBounds_toArray, List.set_cons_zero, List.set_cons_succ]
            refine takeW (i := 2) (k := 24) (v := ?_) rfl (by kernel_rfl) (by kernel_rfl) (by kernel_rfl) (by kernel_rfl) (fun _ _ _ h => h) (by rfl) ?_ (by assumption) ?_
            rotate_left
            · intro w hSw; (try dsimp only at hSw); go_simp <;> (with_reducible rfl)
            simp only [List.setIfInBounds_toArray, List.set_cons_zero, List.set_cons_succ]
            refine takeW (i := 3) (k := 25) (v := ?_) rfl (by kernel_rfl) (by kernel_rfl) (by kernel_rfl) (by kernel_rfl) (fun _ _ _ h => h) (by rfl) ?_ (by assumption) ?_
            rotate_left
            · intro w hSw; (try dsimp only at hSw); go_simp <;> (with_reducible rfl)
            simp only [List.setIfInBounds_toArray, List.set_cons_zero, List.set_cons_succ]
            refine takeW (i := 4) (k := 26) (v := ?_) rfl (by kernel_rfl) (by kernel_rfl) (by kernel_rfl) (by kernel_rfl) (fun _ _ _ h => h) (by rfl) ?_ (by assumption) ?_
            rotate_left
            · intro w hSw; (try dsimp only at hSw); go_simp <;> (with_reducible rfl)
            simp only [List.setIfInBounds_toArray, List.set_cons_zero, List.set_cons_succ]
            refine takeW (i := 5) (k := 27) (v := ?_) rfl (by kernel_rfl) (by kernel_rfl) (by kernel_rfl) (by kernel_rfl) (fun _ _ _ h => h) (by rfl) ?_ (by assumption) ?_
            rotate_left
            · intro w hSw; (try dsimp only at hSw); go_simp <;> (with_reducible rfl)
            simp only [List.setIfInBounds_toArray, List.set_cons_zero, List.set_cons_succ]
            refine takeW (i := 6) (k := 28) (v := ?_) rfl (by kernel_rfl) (by kernel_rfl) (by kernel_rfl) (by kernel_rfl) (fun _ _ _ h => h) (by rfl) ?_ (by assumption) ?_
            rotate_left
            · intro w hSw; (try dsimp only at hSw); go_simp <;> (with_reducible rfl)
            simp only [List.setIfInBounds_toArray, List.set_cons_zero, List.set_cons_succ]
            refine takeW (i := 7) (k := 29) (v := ?_) rfl (by kernel_rfl) (by kernel_rfl) (by kernel_rfl) (by kernel_rfl) (fun _ _ _ h => h) (by rfl) ?_ (by assumption) ?_
            rotate_left
            · intro w hSw; (try dsimp only at hSw); go_simp <;> (with_reducible rfl)
            simp only [List.setIfInBounds_toArray, List.set_cons_zero, List.set_cons_succ]
            refine takeW (i := 8) (k := 30) (v := ?_) rfl (by kernel_rfl) (by kernel_rfl) (by kernel_rfl) (by kernel_rfl) (fun _ _ _ h => h) (by rfl) ?_ (by assumption) ?_
            rotate_left
            · intro w hSw; (try dsimp only at hSw); go_simp <;> (with_reducible rfl)
            simp only [List.setIfInBounds_toArray, List.set_cons_zero, List.set_cons_succ]
            refine takeW (i := 9) (k := 31) (v := ?_) rfl (by kernel_rfl) (by kernel_rfl) (by kernel_rfl) (by kernel_rfl) (fun _ _ _ h => h) (by rfl) ?_ (by assumption) ?_
            rotate_left
            · intro w hSw; (try dsimp only at hSw); go_simp <;> (with_reducible rfl)
            simp only [List.setIfInBounds_toArray, List.set_cons_zero, List.set_cons_succ]
            refine takeW (i := 10) (k := 32) (v := ?_) rfl (by kernel_rfl) (by kernel_rfl) (by kernel_rfl) (by kernel_rfl) (fun _ _ _ h => h) (by rfl) ?_ (by assumption) ?_
            rotate_left
            · intro w hSw; (try dsimp only at hSw); go_simp <;> (with_reducible rfl)
            simp only [List.setIfInBounds_toArray, List.set_cons_zero, List.set_cons_succ]
            refine takeW (i := 11) (k := 33) (v := ?_) rfl (by kernel_rfl) (by kernel_rfl) (by kernel_rfl) (by kernel_rfl) (fun _ _ _ h => h) (by rfl) ?_ (by assumption) ?_
            rotate_left
            · intro w hSw; (try dsimp only at hSw); go_simp <;> (with_reducible rfl)
            simp only [List.setIfInBounds_toArray, List.set_cons_zero, List.set_cons_succ]
            refine takeW (i := 12) (k := 34) (v := ?_) rfl (by kernel_rfl) (by kernel_rfl) (by kernel_rfl) (by kernel_rfl) (fun _ _ _ h => h) (by rfl) ?_ (by assumption) ?_
            rotate_left
            · intro w hSw; (try dsimp only at hSw); go_simp <;> (with_reducible rfl)
            simp only [List.setIfInBounds_toArray, List.set_cons_zero, List.set_cons_succ]
            refine takeW (i := 13) (k := 35) (v := ?_) rfl (by kernel_rfl) (by kernel_rfl) (by kernel_rfl) (by kernel_rfl) (fun _ _ _ h => h) (by rfl) ?_ (by assumption) ?_
            rotate_left
            · intro w hSw; (try dsimp only at hSw); go_simp <;> (with_reducible rfl)
            simp only [List.setIfInBounds_toArray, List.set_cons_zero, List.set_cons_succ]
            refine takeW (i := 14) (k := 36) (v := ?_) rfl (by kernel_rfl) (by kernel_rfl) (by kernel_rfl) (by kernel_rfl) (fun _ _ _ h => h) (by rfl) ?_ (by assumption) ?_
            rotate_left
            · intro w hSw; (try dsimp only at hSw); go_simp <;> (with_reducible rfl)
            simp only [List.setIfInBounds_toArray, List.set_cons_zero, List.set_cons_succ]
            refine takeW (i := 15) (k := 37) (v := ?_) rfl (by kernel_rfl) (by kernel_rfl) (by kernel_rfl) (by kernel_rfl) (fun _ _ _ h => h) (by rfl) ?_ (by assumption) ?_
            rotate_left
            · intro w hSw; (try dsimp only at hSw); go_simp <;> (with_reducible rfl)
            simp only [List.setIfInBounds_toArray, List.set_cons_zero, List.set_cons_succ]
            refine takeW (i := 16) (k := 38) (v := ?_) rfl (by kernel_rfl) (by kernel_rfl) (by kernel_rfl) (by kernel_rfl) (fun _ _ _ h => h) (by rfl) ?_ (by assumption) ?_
            rotate_left
            · intro w hSw; (try dsimp only at hSw); go_simp <;> (with_reducible rfl)
            simp only [List.setIfInBounds_toArray, List.set_cons_zero, List.set_cons_succ]
            refine takeW (i := 17) (k := 39) (v := ?_) rfl (by kernel_rfl) (by kernel_rfl) (by kernel_rfl) (by kernel_rfl) (fun _ _ _ h => h) (by rfl) ?_ (by assumption) ?_
            rotate_left
            · intro w hSw; (try dsimp only at hSw); go_simp <;> (with_reducible rfl)
            simp only [List.setIfInBounds_toArray, List.set_cons_zero, List.set_cons_succ]
            refine takeW (i := 18) (k := 40) (v := ?_) rfl (by kernel_rfl) (by kernel_rfl) (by kernel_rfl) (by kernel_rfl) (fun _ _ _ h => h) (by rfl) ?_ (by assumption) ?_
            rotate_left
            · intro w hSw; (try dsimp only at hSw); go_simp <;> (with_reducible rfl)
            simp only [List.setIfInBounds_toArray, List.set_cons_zero, List.set_cons_succ]
            refine takeW (i := 19) (k := 41) (v := ?_) rfl (by kernel_rfl) (by kernel_rfl) (by kernel_rfl) (by kernel_rfl) (fun _ _ _ h => h) (by rfl) ?_ (by assumption) ?_
            rotate_left
            · intro w hSw; (try dsimp only at hSw); go_simp <;> (with_reducible rfl)
            simp only [List.setIfInBounds_toArray, List.set_cons_zero, List.set_cons_succ]
            refine takeW (i := 20) (k := 42) (v := ?_) rfl (by kernel_rfl) (by kernel_rfl) (by kernel_rfl) (by kernel_rfl) (fun _ _ _ h => h) (by rfl) ?_ (by assumption) ?_
            rotate_left
            · intro w hSw; (try dsimp only at hSw); go_simp <;> (with_reducible rfl)
            simp only [List.setIfInBounds_toArray, List.set_cons_zero, List.set_cons_succ]
            refine takeW (i := 21) (k := 43) (v := ?_) rfl (by kernel_rfl) (by kernel_rfl) (by kernel_rfl) (by kernel_rfl) (fun _ _ _ h => h) (by rfl) ?_ (by assumption) ?_
            rotate_left
            · intro w hSw; (try dsimp only at hSw); go_simp <;> (with_reducible rfl)
            simp only [List.setIfInBounds_toArray, List.set_cons_zero, List.set_cons_succ]
            refine wpAnyH_ready (rs := [22]) (by kernel_rfl) (by simp) ?_
            refine AllReadyH.cons rfl (fun K hK => ?_) ?_
            rotate_left
            · exact AllReadyH.nil
            go_simp
            go_wp2_with ((go_at_call 33; refine HKD.out.mono ?_; rintro e w2 ⟨rfl, hb⟩; have HB2 := Lib.hid ((below_drew1 wr.heap.size wr).trans hb); have HPC := Lib.hid (And.intro (stayA HSB.out.1 HB2.out) (stay7 HSB.out.2 HB2.out)); clear hb))
            refine hK.out _ _ ?_ (fun hHeld => ?_)
            · exact HPC.out
            clear hK K
            refine takeW (i := 23) (k := 45) (v := ?_) rfl (by kernel_rfl) (by kernel_rfl) (by kernel_rfl) (by kernel_rfl) (fun _ _ _ h => h) (by rfl) ?_ (by assumption) ?_
            rotate_left
            · intro w hSw; (try dsimp only at hSw); go_simp <;> (with_reducible rfl)
            simp only [List.setIfInBounds_toArray, List.set_cons_zero, List.set_cons_succ]
            refine takeW (i := 24) (k := 46) (v := ?_) rfl (by kernel_rfl) (by kernel_rfl) (by kernel_rfl) (by kernel_rfl) (fun _ _ _ h => h) (by rfl) ?_ (by assumption) ?_
            rotate_left
            · intro w hSw; (try dsimp only at hSw); go_simp <;> (with_reducible rfl)
            simp only [List.setIfInBounds_toArray, List.set_cons_zero, List.set_cons_succ]
            refine wpAnyH_done (by kernel_rfl) ?_ _
            obtain ⟨⟨z0, z1, z2, z3, z4, z5, z6⟩, ⟨y0, y1⟩, -⟩ := HPC.out.1
            have HDW := Lib.hid (HDM.out w2 (HW00.out.trans (HB2.out.mono HW00.out.size)))
            cases Z with
            | none =>
              have HF := Lib.hid (show none = r from HNX.out)
              have HDW := Lib.hid (show Calls Tryd.prog 17 #[.agg #[.slice (some ⟨bb, oo, none⟩) ns.length nc, .int .i64 root], .int .i64 (m : Int)] w2 fun e w' => e = .returned (.int .i64 (-1)) ∧ Below w2.heap.size w2 w' from HDW.out)
              go_wp2_with (go_at_call 17; refine HDW.out.mono ?_; rintro e w3 ⟨rfl, hb3⟩; have HB3 := Lib.hid (HB2.out.trans (hb3.mono HB2.out.size)); clear hb3)
              go_ret
              exact ⟨by rw [← HF.out]; rfl, HW0.out.trans (HB3.out.mono HW0.out.size)⟩
            | some m' =>
              have HF := Lib.hid (show rkidsT (rwalkT ns f) ns n (j + 1) (n.kids.drop (j + 1)) m' = r from HNX.out)
              have HDW := Lib.hid (show Calls Tryd.prog 17 #[.agg #[.slice (some ⟨bb, oo, none⟩) ns.length nc, .int .i64 root], .int .i64 (m : Int)] w2 fun e w' => e = .returned (.int .i64 (m' : Int)) ∧ Below w2.heap.size w2 w' from HDW.out)
              have HLT := Lib.hid (HLT.out m' rfl)
              have hmp : decide ((m' : Int) < 0) = false := decide_eq_false (by omega)
              clear hmi hm0 ha0 ha1 hL0 hmn hmn2 hne
              go_wp2_with (go_at_call 17; refine HDW.out.mono ?_; rintro e w3 ⟨rfl, hb3⟩; have HB3 := Lib.hid (HB2.out.trans (hb3.mono HB2.out.size)); clear hb3)
              go_roundw
              case rel => exact ⟨j + 1, m', HJ.out, by go_num, rfl, by have := HAM.out; have := HLT.out; omega, HB.out.trans (HB3.out.mono HB.out.size), HF.out⟩
              case measure => have := HJ.out; simp [intOf]; omega
        · have HF := Lib.hid (show none = r from by
            have := HSD.out
            rwa [if_pos rfl, List.getElem?_eq_none (by omega)] at this)
          have hmn : decide (ns.length ≤ m) = true := decide_eq_true (by omega)
          have hmn2 : decide ((ns.length : Int) ≤ (m : Int)) = true := decide_eq_true (by omega)
          have hne : ((m : Int) != (m : Int)) = false := by simp
          clear hml
          go_wp2_with fail
          refine wp_region_held_drew (S := (fun W => (W.cell? ⟨w.heap.size + 1, 0, none⟩ = some (.string xo) ∧ W.cell? ⟨w.heap.size + 1, 1, none⟩ = some (.string xn) ∧ W.cell? ⟨w.heap.size + 1, 2, none⟩ = some (.slice (some ⟨kbb, ko, none⟩) KL kc) ∧ W.cell? ⟨w.heap.size + 1, 3, none⟩ = some (.slice wp WL wc) ∧ W.cell? ⟨w.heap.size + 1, 4, none⟩ = some (.slice pp PL pc) ∧ W.cell? ⟨w.heap.size + 1, 5, none⟩ = some (.slice ap AL ac) ∧ W.cell? ⟨w.heap.size + 1, 6, none⟩ = some (.slice rp RL rc)) ∧ (W.cell? ⟨w.heap.size, 0, none⟩ = some (.slice (some ⟨bb, oo, none⟩) ns.length nc) ∧ W.cell? ⟨w.heap.size, 1, none⟩ = some (.int .i64 root)) ∧ W.cell? ⟨kbb, ko + j, none⟩ = some (.int .i64 (m : Int)))) (by kernel_rfl) ?_ (fun hHeld => ?_)
          · exact HSA.out
          refine takeW (i := 0) (k := 22) (v := ?_) rfl (by kernel_rfl) (by kernel_rfl) (by kernel_rfl) (by kernel_rfl) (fun _ _ _ h => h) (by rfl) ?_ (by assumption) ?_
          rotate_left
          · intro w hSw; (try dsimp only at hSw); go_simp <;> (with_reducible rfl)
          simp only [List.setIfInBounds_toArray, List.set_cons_zero, List.set_cons_succ]
          refine takeW (i := 1) (k := 23) (v := ?_) rfl (by kernel_rfl) (by kernel_rfl) (by kernel_rfl) (by kernel_rfl) (fun _ _ _ h => h) (by rfl) ?_ (by assumption) ?_
          rotate_left
          · intro w hSw; (try dsimp only at hSw); go_simp <;> (with_reducible rfl)
          simp only [List.setIfInBounds_toArray, List.set_cons_zero, List.set_cons_succ]
          refine takeW (i := 2) (k := 24) (v := ?_) rfl (by kernel_rfl) (by kernel_rfl) (by kernel_rfl) (by kernel_rfl) (fun _ _ _ h => h) (by rfl) ?_ (by assumption) ?_
          rotate_left
          · intro w hSw; (try dsimp only at hSw); go_simp <;> (with_reducible rfl)
          simp only [List.setIfInBounds_toArray, List.set_cons_zero, List.set_cons_succ]
          refine takeW (i := 3) (k := 25) (v := ?_) rfl (by kernel_rfl) (by kernel_rfl) (by kernel_rfl) (by kernel_rfl) (fun _ _ _ h => h) (by rfl) ?_ (by assumption) ?_
          rotate_left
          · intro w hSw; (try dsimp only at hSw); go_simp <;> (with_reducible rfl)
          simp only [List.setIfInBounds_toArray, List.set_cons_zero, List.set_cons_succ]
          refine takeW (i := 4) (k := 26) (v := ?_) rfl (by kernel_rfl) (by kernel_rfl) (by kernel_rfl) (by kernel_rfl) (fun _ _ _ h => h) (by rfl) ?_ (by assumption) ?_
          rotate_left
          · intro w hSw; (try dsimp only at hSw); go_simp <;> (with_reducible rfl)
          simp only [List.setIfInBounds_toArray, List.set_cons_zero, List.set_cons_succ]
          refine takeW (i := 5) (k := 27) (v := ?_) rfl (by kernel_rfl) (by kernel_rfl) (by kernel_rfl) (by kernel_rfl) (fun _ _ _ h => h) (by rfl) ?_ (by assumption) ?_
          rotate_left
          · intro w hSw; (try dsimp only at hSw); go_simp <;> (with_reducible rfl)
          simp only [List.setIfInBounds_toArray, List.set_cons_zero, List.set_cons_succ]
          refine takeW (i := 6) (k := 28) (v := ?_) rfl (by kernel_rfl) (by kernel_rfl) (by kernel_rfl) (by kernel_rfl) (fun _ _ _ h => h) (by rfl) ?_ (by assumption) ?_
          rotate_left
          · intro w hSw; (try dsimp only at hSw); go_simp <;> (with_reducible rfl)
          simp only [List.setIfInBounds_toArray, List.set_cons_zero, List.set_cons_succ]
          refine takeW (i := 7) (k := 29) (v := ?_) rfl (by kernel_rfl) (by kernel_rfl) (by kernel_rfl) (by kernel_rfl) (fun _ _ _ h => h) (by rfl) ?_ (by assumption) ?_
          rotate_left
          · intro w hSw; (try dsimp only at hSw); go_simp <;> (with_reducible rfl)
          simp only [List.setIfInBounds_toArray, List.set_cons_zero, List.set_cons_succ]
          refine takeW (i := 8) (k := 30) (v := ?_) rfl (by kernel_rfl) (by kernel_rfl) (by kernel_rfl) (by kernel_rfl) (fun _ _ _ h => h) (by rfl) ?_ (by assumption) ?_
          rotate_left
          · intro w hSw; (try dsimp only at hSw); go_simp <;> (with_reducible rfl)
          simp only [List.setIfInBounds_toArray, List.set_cons_zero, List.set_cons_succ]
          refine takeW (i := 9) (k := 31) (v := ?_) rfl (by kernel_rfl) (by kernel_rfl) (by kernel_rfl) (by kernel_rfl) (fun _ _ _ h => h) (by rfl) ?_ (by assumption) ?_
          rotate_left
          · intro w hSw; (try dsimp only at hSw); go_simp <;> (with_reducible rfl)
          simp only [List.setIfInBounds_toArray, List.set_cons_zero, List.set_cons_succ]
          refine takeW (i := 10) (k := 32) (v := ?_) rfl (by kernel_rfl) (by kernel_rfl) (by kernel_rfl) (by kernel_rfl) (fun _ _ _ h => h) (by rfl) ?_ (by assumption) ?_
          rotate_left
          · intro w hSw; (try dsimp only at hSw); go_simp <;> (with_reducible rfl)
          simp only [List.setIfInBounds_toArray, List.set_cons_zero, List.set_cons_succ]
          refine takeW (i := 11) (k := 33) (v := ?_) rfl (by kernel_rfl) (by kernel_rfl) (by kernel_rfl) (by kernel_rfl) (fun _ _ _ h => h) (by rfl) ?_ (by assumption) ?_
          rotate_left
          · intro w hSw; (try dsimp only at hSw); go_simp <;> (with_reducible rfl)
          simp only [List.setIfInBounds_toArray, List.set_cons_zero, List.set_cons_succ]
          refine takeW (i := 12) (k := 34) (v := ?_) rfl (by kernel_rfl) (by kernel_rfl) (by kernel_rfl) (by kernel_rfl) (fun _ _ _ h => h) (by rfl) ?_ (by assumption) ?_
          rotate_left
          · intro w hSw; (try dsimp only at hSw); go_simp <;> (with_reducible rfl)
          simp only [List.setIfInBounds_toArray, List.set_cons_zero, List.set_cons_succ]
          refine takeW (i := 13) (k := 35) (v := ?_) rfl (by kernel_rfl) (by kernel_rfl) (by kernel_rfl) (by kernel_rfl) (fun _ _ _ h => h) (by rfl) ?_ (by assumption) ?_
          rotate_left
          · intro w hSw; (try dsimp only at hSw); go_simp <;> (with_reducible rfl)
          simp only [List.setIfInBounds_toArray, List.set_cons_zero, List.set_cons_succ]
          refine takeW (i := 14) (k := 36) (v := ?_) rfl (by kernel_rfl) (by kernel_rfl) (by kernel_rfl) (by kernel_rfl) (fun _ _ _ h => h) (by rfl) ?_ (by assumption) ?_
          rotate_left
          · intro w hSw; (try dsimp only at hSw); go_simp <;> (with_reducible rfl)
          simp only [List.setIfInBounds_toArray, List.set_cons_zero, List.set_cons_succ]
          refine takeN (i := 15) (k := 37) rfl (by kernel_rfl) (by kernel_rfl) (by kernel_rfl) (by kernel_rfl) (fun _ _ _ h => h) (by rfl) (by assumption) ?_
          simp only [List.setIfInBounds_toArray, List.set_cons_zero, List.set_cons_succ]
          refine takeN (i := 16) (k := 38) rfl (by kernel_rfl) (by kernel_rfl) (by kernel_rfl) (by kernel_rfl) (fun _ _ _ h => h) (by rfl) (by assumption) ?_
          simp only [List.setIfInBounds_toArray, List.set_cons_zero, List.set_cons_succ]
          refine takeN (i := 17) (k := 39) rfl (by kernel_rfl) (by kernel_rfl) (by kernel_rfl) (by kernel_rfl) (fun _ _ _ h => h) (by rfl) (by assumption) ?_
          simp only [List.setIfInBounds_toArray, List.set_cons_zero, List.set_cons_succ]
          refine takeN (i := 18) (k := 40) rfl (by kernel_rfl) (by kernel_rfl) (by kernel_rfl) (by kernel_rfl) (fun _ _ _ h => h) (by rfl) (by assumption) ?_
          simp only [List.setIfInBounds_toArray, List.set_cons_zero, List.set_cons_succ]
          refine takeN (i := 19) (k := 41) rfl (by kernel_rfl) (by kernel_rfl) (by kernel_rfl) (by kernel_rfl) (fun _ _ _ h => h) (by rfl) (by assumption) ?_
          simp only [List.setIfInBounds_toArray, List.set_cons_zero, List.set_cons_succ]
          refine takeN (i := 20) (k := 42) rfl (by kernel_rfl) (by kernel_rfl) (by kernel_rfl) (by kernel_rfl) (fun _ _ _ h => h) (by rfl) (by assumption) ?_
          simp only [List.setIfInBounds_toArray, List.set_cons_zero, List.set_cons_succ]
          refine takeN (i := 21) (k := 43) rfl (by kernel_rfl) (by kernel_rfl) (by kernel_rfl) (by kernel_rfl) (fun _ _ _ h => h) (by rfl) (by assumption) ?_
          simp only [List.setIfInBounds_toArray, List.set_cons_zero, List.set_cons_succ]
          refine takeN (i := 22) (k := 44) rfl (by kernel_rfl) (by kernel_rfl) (by kernel_rfl) (by kernel_rfl) (fun _ _ _ h => h) (by rfl) (by assumption) ?_
          simp only [List.setIfInBounds_toArray, List.set_cons_zero, List.set_cons_succ]
          refine takeN (i := 23) (k := 45) rfl (by kernel_rfl) (by kernel_rfl) (by kernel_rfl) (by kernel_rfl) (fun _ _ _ h => h) (by rfl) (by assumption) ?_
          simp only [List.setIfInBounds_toArray, List.set_cons_zero, List.set_cons_succ]
          refine takeW (i := 24) (k := 46) (v := ?_) rfl (by kernel_rfl) (by kernel_rfl) (by kernel_rfl) (by kernel_rfl) (fun _ _ _ h => h) (by rfl) ?_ (by assumption) ?_
          rotate_left
          · intro w hSw; (try dsimp only at hSw); go_simp <;> (with_reducible rfl)
          simp only [List.setIfInBounds_toArray, List.set_cons_zero, List.set_cons_succ]
          refine wpAnyH_done (by kernel_rfl) ?_ _
          go_wp2_with fail
          go_ret
          exact ⟨by rw [← HF.out]; rfl, HW0.out.trans ((below_drew1 wr.heap.size wr).mono HW0.out.size)⟩
      · have HF := Lib.hid (show none = r from by have := HSD.out; rwa [if_neg hkm] at this)
        have hne : (kk != (m : Int)) = true := by simpa using hkm
        clear hkm
        go_wp2_with fail
        refine wp_region_held_drew (S := (fun W => (W.cell? ⟨w.heap.size + 1, 0, none⟩ = some (.string xo) ∧ W.cell? ⟨w.heap.size + 1, 1, none⟩ = some (.string xn) ∧ W.cell? ⟨w.heap.size + 1, 2, none⟩ = some (.slice (some ⟨kbb, ko, none⟩) KL kc) ∧ W.cell? ⟨w.heap.size + 1, 3, none⟩ = some (.slice wp WL wc) ∧ W.cell? ⟨w.heap.size + 1, 4, none⟩ = some (.slice pp PL pc) ∧ W.cell? ⟨w.heap.size + 1, 5, none⟩ = some (.slice ap AL ac) ∧ W.cell? ⟨w.heap.size + 1, 6, none⟩ = some (.slice rp RL rc)) ∧ (W.cell? ⟨w.heap.size, 0, none⟩ = some (.slice (some ⟨bb, oo, none⟩) ns.length nc) ∧ W.cell? ⟨w.heap.size, 1, none⟩ = some (.int .i64 root)) ∧ W.cell? ⟨kbb, ko + j, none⟩ = some (.int .i64 kk))) (by kernel_rfl) ?_ (fun hHeld => ?_)
        · exact HSA.out
        refine takeW (i := 0) (k := 22) (v := ?_) rfl (by kernel_rfl) (by kernel_rfl) (by kernel_rfl) (by kernel_rfl) (fun _ _ _ h => h) (by rfl) ?_ (by assumption) ?_
        rotate_left
        · intro w hSw; (try dsimp only at hSw); go_simp <;> (with_reducible rfl)
        simp only [List.setIfInBounds_toArray, List.set_cons_zero, List.set_cons_succ]
        refine takeW (i := 1) (k := 23) (v := ?_) rfl (by kernel_rfl) (by kernel_rfl) (by kernel_rfl) (by kernel_rfl) (fun _ _ _ h => h) (by rfl) ?_ (by assumption) ?_
        rotate_left
        · intro w hSw; (try dsimp only at hSw); go_simp <;> (with_reducible rfl)
        simp only [List.setIfInBounds_toArray, List.set_cons_zero, List.set_cons_succ]
        refine takeW (i := 2) (k := 24) (v := ?_) rfl (by kernel_rfl) (by kernel_rfl) (by kernel_rfl) (by kernel_rfl) (fun _ _ _ h => h) (by rfl) ?_ (by assumption) ?_
        rotate_left
        · intro w hSw; (try dsimp only at hSw); go_simp <;> (with_reducible rfl)
        simp only [List.setIfInBounds_toArray, List.set_cons_zero, List.set_cons_succ]
        refine takeW (i := 3) (k := 25) (v := ?_) rfl (by kernel_rfl) (by kernel_rfl) (by kernel_rfl) (by kernel_rfl) (fun _ _ _ h => h) (by rfl) ?_ (by assumption) ?_
        rotate_left
        · intro w hSw; (try dsimp only at hSw); go_simp <;> (with_reducible rfl)
        simp only [List.setIfInBounds_toArray, List.set_cons_zero, List.set_cons_succ]
        refine takeW (i := 4) (k := 26) (v := ?_) rfl (by kernel_rfl) (by kernel_rfl) (by kernel_rfl) (by kernel_rfl) (fun _ _ _ h => h) (by rfl) ?_ (by assumption) ?_
        rotate_left
        · intro w hSw; (try dsimp only at hSw); go_simp <;> (with_reducible rfl)
        simp only [List.setIfInBounds_toArray, List.set_cons_zero, List.set_cons_succ]
        refine takeW (i := 5) (k := 27) (v := ?_) rfl (by kernel_rfl) (by kernel_rfl) (by kernel_rfl) (by kernel_rfl) (fun _ _ _ h => h) (by rfl) ?_ (by assumption) ?_
        rotate_left
        · intro w hSw; (try dsimp only at hSw); go_simp <;> (with_reducible rfl)
        simp only [List.setIfInBounds_toArray, List.set_cons_zero, List.set_cons_succ]
        refine takeW (i := 6) (k := 28) (v := ?_) rfl (by kernel_rfl) (by kernel_rfl) (by kernel_rfl) (by kernel_rfl) (fun _ _ _ h => h) (by rfl) ?_ (by assumption) ?_
        rotate_left
        · intro w hSw; (try dsimp only at hSw); go_simp <;> (with_reducible rfl)
        simp only [List.setIfInBounds_toArray, List.set_cons_zero, List.set_cons_succ]
        refine takeW (i := 7) (k := 29) (v := ?_) rfl (by kernel_rfl) (by kernel_rfl) (by kernel_rfl) (by kernel_rfl) (fun _ _ _ h => h) (by rfl) ?_ (by assumption) ?_
        rotate_left
        · intro w hSw; (try dsimp only at hSw); go_simp <;> (with_reducible rfl)
        simp only [List.setIfInBounds_toArray, List.set_cons_zero, List.set_cons_succ]
        refine takeN (i := 8) (k := 30) rfl (by kernel_rfl) (by kernel_rfl) (by kernel_rfl) (by kernel_rfl) (fun _ _ _ h => h) (by rfl) (by assumption) ?_
        simp only [List.setIfInBounds_toArray, List.set_cons_zero, List.set_cons_succ]
        refine takeN (i := 9) (k := 31) rfl (by kernel_rfl) (by kernel_rfl) (by kernel_rfl) (by kernel_rfl) (fun _ _ _ h => h) (by rfl) (by assumption) ?_
        simp only [List.setIfInBounds_toArray, List.set_cons_zero, List.set_cons_succ]
        refine takeN (i := 10) (k := 32) rfl (by kernel_rfl) (by kernel_rfl) (by kernel_rfl) (by kernel_rfl) (fun _ _ _ h => h) (by rfl) (by assumption) ?_
        simp only [List.setIfInBounds_toArray, List.set_cons_zero, List.set_cons_succ]
        refine takeN (i := 11) (k := 33) rfl (by kernel_rfl) (by kernel_rfl) (by kernel_rfl) (by kernel_rfl) (fun _ _ _ h => h) (by rfl) (by assumption) ?_
        simp only [List.setIfInBounds_toArray, List.set_cons_zero, List.set_cons_succ]
        refine takeN (i := 12) (k := 34) rfl (by kernel_rfl) (by kernel_rfl) (by kernel_rfl) (by kernel_rfl) (fun _ _ _ h => h) (by rfl) (by assumption) ?_
        simp only [List.setIfInBounds_toArray, List.set_cons_zero, List.set_cons_succ]
        refine takeW (i := 13) (k := 35) (v := ?_) rfl (by kernel_rfl) (by kernel_rfl) (by kernel_rfl) (by kernel_rfl) (fun _ _ _ h => h) (by rfl) ?_ (by assumption) ?_
        rotate_left
        · intro w hSw; (try dsimp only at hSw); go_simp <;> (with_reducible rfl)
        simp only [List.setIfInBounds_toArray, List.set_cons_zero, List.set_cons_succ]
        refine takeW (i := 14) (k := 36) (v := ?_) rfl (by kernel_rfl) (by kernel_rfl) (by kernel_rfl) (by kernel_rfl) (fun _ _ _ h => h) (by rfl) ?_ (by assumption) ?_
        rotate_left
        · intro w hSw; (try dsimp only at hSw); go_simp <;> (with_reducible rfl)
        simp only [List.setIfInBounds_toArray, List.set_cons_zero, List.set_cons_succ]
        refine takeN (i := 15) (k := 37) rfl (by kernel_rfl) (by kernel_rfl) (by kernel_rfl) (by kernel_rfl) (fun _ _ _ h => h) (by rfl) (by assumption) ?_
        simp only [List.setIfInBounds_toArray, List.set_cons_zero, List.set_cons_succ]
        refine takeN (i := 16) (k := 38) rfl (by kernel_rfl) (by kernel_rfl) (by kernel_rfl) (by kernel_rfl) (fun _ _ _ h => h) (by rfl) (by assumption) ?_
        simp only [List.setIfInBounds_toArray, List.set_cons_zero, List.set_cons_succ]
        refine takeN (i := 17) (k := 39) rfl (by kernel_rfl) (by kernel_rfl) (by kernel_rfl) (by kernel_rfl) (fun _ _ _ h => h) (by rfl) (by assumption) ?_
        simp only [List.setIfInBounds_toArray, List.set_cons_zero, List.set_cons_succ]
        refine takeN (i := 18) (k := 40) rfl (by kernel_rfl) (by kernel_rfl) (by kernel_rfl) (by kernel_rfl) (fun _ _ _ h => h) (by rfl) (by assumption) ?_
        simp only [List.setIfInBounds_toArray, List.set_cons_zero, List.set_cons_succ]
        refine takeN (i := 19) (k := 41) rfl (by kernel_rfl) (by kernel_rfl) (by kernel_rfl) (by kernel_rfl) (fun _ _ _ h => h) (by rfl) (by assumption) ?_
        simp only [List.setIfInBounds_toArray, List.set_cons_zero, List.set_cons_succ]
        refine takeN (i := 20) (k := 42) rfl (by kernel_rfl) (by kernel_rfl) (by kernel_rfl) (by kernel_rfl) (fun _ _ _ h => h) (by rfl) (by assumption) ?_
        simp only [List.setIfInBounds_toArray, List.set_cons_zero, List.set_cons_succ]
        refine takeN (i := 21) (k := 43) rfl (by kernel_rfl) (by kernel_rfl) (by kernel_rfl) (by kernel_rfl) (fun _ _ _ h => h) (by rfl) (by assumption) ?_
        simp only [List.setIfInBounds_toArray, List.set_cons_zero, List.set_cons_succ]
        refine takeN (i := 22) (k := 44) rfl (by kernel_rfl) (by kernel_rfl) (by kernel_rfl) (by kernel_rfl) (fun _ _ _ h => h) (by rfl) (by assumption) ?_
        simp only [List.setIfInBounds_toArray, List.set_cons_zero, List.set_cons_succ]
        refine takeN (i := 23) (k := 45) rfl (by kernel_rfl) (by kernel_rfl) (by kernel_rfl) (by kernel_rfl) (fun _ _ _ h => h) (by rfl) (by assumption) ?_
        simp only [List.setIfInBounds_toArray, List.set_cons_zero, List.set_cons_succ]
        refine takeW (i := 24) (k := 46) (v := ?_) rfl (by kernel_rfl) (by kernel_rfl) (by kernel_rfl) (by kernel_rfl) (fun _ _ _ h => h) (by rfl) ?_ (by assumption) ?_
        rotate_left
        · intro w hSw; (try dsimp only at hSw); go_simp <;> (with_reducible rfl)
        simp only [List.setIfInBounds_toArray, List.set_cons_zero, List.set_cons_succ]
        refine wpAnyH_done (by kernel_rfl) ?_ _
        go_wp2_with fail
        go_ret
        exact ⟨by rw [← HF.out]; rfl, HW0.out.trans ((below_drew1 wr.heap.size wr).mono HW0.out.size)⟩
    · obtain rfl : j = KL := by omega
      have hj0 : ¬ (j : Int) < (j : Int) := by omega
      rw [List.drop_of_length_le (by rw [HKL.out]; exact Nat.le_refl _), rkidsT] at hsd
      have HF := Lib.hid (show some m = r from hsd)
      obtain ⟨n0, n1, n2, n3, n4, n5, n6⟩ := HQN.out
      clear hb hlt hj hsd ham
      go_wp2_with fail
      go_ret
      exact ⟨by rw [← HF.out]; rfl, HW0.out⟩
theorem rwalk_any {w0 : World} {np : Option Addr} {nc : Nat} {root : Int} {ns : List Nd} (hN : NsAt w0 (.slice np ns.length nc) ns) : ∀ f, RWalkDo w0 np nc root ns f
  | 0 => fun a w _ ha hf => by omega
  | f + 1 => rwalk_next hN (rwalk_any hN f)
end Go.Proofs.YtloaalapkmbgeaaDoor

namespace Go.Proofs.YtloaalapkmbgeaaDoor
open Go Go.RowKit GlyphMath LexMath TreeMath

/-- A node's rows and texts are so long at most. -/
structure NFew (n : Nd) : Prop where
  small : NSmall n
  kids : n.kids.length ≤ 1048576
  words : n.words.length ≤ 1048576
  assigns : n.assigns.length ≤ 1048576
  redirs : n.redirs.length ≤ 1048576

theorem rone_any (n : Nd) (kp wp pp ap rp : Option Addr) (kc wc pc ac rc : Nat) (w : World) (hw : WsAt w (.slice wp n.words.length wc) n.words) (hp : PatsAt w (.slice pp n.pats.length pc) n.pats) (ha : AsAt w (.slice ap n.assigns.length ac) n.assigns) (hr : AsAt w (.slice rp n.redirs.length rc) n.redirs) (hs : NFew n) (hT : Tabs w) :
    Calls Tryd.prog 16 #[NV n kp wp pp ap rp kc wc pc ac rc] w fun e w' => e = .returned (.bool (oneN n)) ∧ Below w.heap.size w w' := by
  have hc : OneC w (T n.op) (T n.name) kp wp pp ap rp n.kids.length n.words.length n.pats.length n.assigns.length n.redirs.length kc wc pc ac rc (rredirsT n) (rcmdT n) (nameT n.name) (reservedT n.name) (n.words.all bareW) (rpatsT n) :=
    { rd := fun W hb => rredirs_any n kp wp pp ap rp kc wc pc ac rc W (AsAt.below hr hb) hs.small (hT.below hb)
      cm := fun W hb => rcmd_any n kp wp pp ap rp kc wc pc ac rc W (WsAt.below hw hb) (AsAt.below ha hb) hs.small ⟨hs.assigns, hs.redirs⟩ (hT.below hb)
      pt := fun W hb => rpats_any n kp wp pp ap rp kc wc pc ac rc W (PatsAt.below hp hb) hs.small (hT.below hb)
      nm := fun W hb => rname_any (T n.name) W (by have := hs.small.name; show n.name.length ≤ _; omega) (hT.below hb)
      rs := fun W => rreserved_any n.name W
      op := fun W hb => ropens_any n.words _ W (WsAt.below hw hb) hs.small.words (hT.below hb)
      w0 := fun h1 => by
        obtain ⟨w0, hw0⟩ : ∃ x, n.words = [x] := by
          match hx : n.words, (show n.words.length = 1 from h1) with
          | [x], _ => exact ⟨x, rfl⟩
        obtain ⟨bb, oo, rfl⟩ := SlAt.ptr hw (k := 0) (x := w0) (by rw [hw0]; rfl)
        obtain ⟨cs, ⟨u, rfl, hu⟩, hcc⟩ := SlAt.cell hw rfl (k := 0) (x := w0) (by rw [hw0]; rfl)
        refine ⟨bb, oo, u, rfl, fun W hW => ?_, fun W hW => ?_⟩
        · have := cell_below (hcc 0 _ rfl) hW
          rwa [show oo + 0 * 1 + 0 = oo by omega] at this
        · have := ropen_any w0 u W (hu.stays hW) (hs.small.words w0 (by rw [hw0]; simp)) (hT.below hW)
          rw [hw0]
          simpa [wordV] using this }
  have hA : decide ((0 : Int) < (n.assigns.length : Int)) = !n.assigns.isEmpty := pos_len n.assigns
  have hP : decide ((0 : Int) < (n.pats.length : Int)) = !n.pats.isEmpty := pos_len n.pats
  have hW : decide ((0 : Int) < (n.words.length : Int)) = !n.words.isEmpty := pos_len n.words
  have hN : (T n.name).toList.isEmpty = n.name.isEmpty := by rw [Lib.toList_data]
  have hol : (T n.op).toList = n.op := by rw [Lib.toList_data]
  have k1 : n.kids.length ≤ 4611686018427387904 := by have := hs.kids; omega
  have k2 : n.words.length ≤ 4611686018427387904 := by have := hs.words; omega
  show Calls _ _ #[.agg #[.string (T n.op), .string (T n.name), .slice kp n.kids.length kc, .slice wp n.words.length wc, .slice pp n.pats.length pc, .slice ap n.assigns.length ac, .slice rp n.redirs.length rc]] _ _
  cases ho : opsL.contains n.op with
  | false =>
    rw [one_other n ho]
    exact rone_other (by rw [hol]; exact ho) hc hA hP hW hN
  | true =>
    have hcase : n.op = [99, 109, 100] ∨ n.op = [115, 101, 113] ∨ n.op = [97, 110, 100] ∨ n.op = [111, 114] ∨ n.op = [110, 111, 116] ∨ n.op = [112, 105, 112, 101] ∨ n.op = [105, 102] ∨ n.op = [119, 104, 105, 108, 101] ∨ n.op = [117, 110, 116, 105, 108] ∨ n.op = [102, 111, 114] ∨ n.op = [99, 97, 115, 101] ∨ n.op = [102, 117, 110] ∨ n.op = [103, 114, 111, 117, 112] ∨ n.op = [115, 117, 98] := by simpa [opsL] using ho
    rcases hcase with h | h | h | h | h | h | h | h | h | h | h | h | h | h
    · rw [one_cmd n h k1 k2]
      exact rone_cmd (by rw [hol]; exact h) hc hA hP hW hN
    · rw [one_seq n h k1 k2]
      exact rone_seq (by rw [hol]; exact h) hc hA hP hW hN
    · rw [one_and n h k1 k2]
      exact rone_and (by rw [hol]; exact h) hc hA hP hW hN
    · rw [one_or n h k1 k2]
      exact rone_or (by rw [hol]; exact h) hc hA hP hW hN
    · rw [one_not n h k1 k2]
      exact rone_not (by rw [hol]; exact h) hc hA hP hW hN
    · rw [one_pipe n h k1 k2]
      exact rone_pipe (by rw [hol]; exact h) hc hA hP hW hN
    · rw [one_if n h k1 k2]
      exact rone_if (by rw [hol]; exact h) hc hA hP hW hN
    · rw [one_while n h k1 k2]
      exact rone_while (by rw [hol]; exact h) hc hA hP hW hN
    · rw [one_until n h k1 k2]
      exact rone_until (by rw [hol]; exact h) hc hA hP hW hN
    · rw [one_for n h k1 k2]
      exact rone_for (by rw [hol]; exact h) hc hA hP hW hN
    · rw [one_case n h k1 k2]
      exact rone_case (by rw [hol]; exact h) hc hA hP hW hN
    · rw [one_fun n h k1 k2]
      exact rone_fun (by rw [hol]; exact h) hc hA hP hW hN
    · rw [one_group n h k1 k2]
      exact rone_group (by rw [hol]; exact h) hc hA hP hW hN
    · rw [one_sub n h k1 k2]
      exact rone_sub (by rw [hol]; exact h) hc hA hP hW hN
end Go.Proofs.YtloaalapkmbgeaaDoor

namespace Go.Proofs.YtloaalapkmbgeaaDoor
open Go Go.RowKit GlyphMath LexMath TreeMath

theorem walkV_is (m : Option Nat) (L : Nat) : (rwalkV m == (L : Int)) = (m == some L) := by
  cases m with
  | none => exact int_ne (by show (-1 : Int) ≠ (L : Int); omega)
  | some m =>
    show ((m : Int) == (L : Int)) = _
    rw [nat_beq]
    simp
theorem prog_cells (w : World) (a b : Value) (t : TypeId) : ∀ W, Below (w.alloc (.cells #[a, b] t)).heap.size (w.alloc (.cells #[a, b] t)) W → W.cell? ⟨w.heap.size, 0, none⟩ = some a ∧ W.cell? ⟨w.heap.size, 1, none⟩ = some b := by
  intro W hb
  have h := heap_alloc_new w (.cells #[a, b] t)
  exact ⟨cell_below (cell_plain h 0) hb, cell_below (cell_plain h 1) hb⟩

set_option linter.unusedSimpArgs false in
set_option maxHeartbeats 2000000 in
set_option maxRecDepth 100000 in
theorem ris_any (ns : List Nd) (root : Int) (np : Option Addr) (nc : Nat) (w : World) (hN : NsAt w (.slice np ns.length nc) ns) (hs : ∀ n ∈ ns, NFew n) (hT : Tabs w) :
    Calls Tryd.prog 9 #[.agg #[.slice np ns.length nc, .int .i64 root]] w fun e w' => e = .returned (.bool (isT ns root)) ∧ Below w.heap.size w w' := by
  have HBX := Lib.hid (fun o => below_one w o)
  obtain ⟨R, hR⟩ : ∃ R, isT ns root = R := ⟨_, rfl⟩
  have hR2 := hR
  rw [is_ref] at hR2
  rw [hR]
  by_cases h1 : 1 ≤ ns.length
  case neg =>
    have HF := Lib.hid (show false = R from by rw [← hR2, decide_eq_false h1]; rfl)
    have hi : (ns.length : Int) < 1 := by omega
    generalize ns.length = L at hi ⊢
    clear hR hR2 hN hs hT h1
    go_enter Tryd.func9, Tryd.ntmps9
    go_wp2_with fail
    go_ret
    exact ⟨ret_bool HF.out, HBX.out _⟩
  rw [decide_eq_true h1, Bool.true_and] at hR2
  by_cases h2 : ns.length ≤ 200
  case neg =>
    have HF := Lib.hid (show false = R from by rw [← hR2, decide_eq_false h2]; rfl)
    have hi : ¬ (ns.length : Int) < 1 := by omega
    have hi2 : (200 : Int) < (ns.length : Int) := by omega
    generalize ns.length = L at hi hi2 ⊢
    clear hR hR2 hN hs hT h1 h2
    go_enter Tryd.func9, Tryd.ntmps9
    go_wp2_with fail
    go_ret
    exact ⟨ret_bool HF.out, HBX.out _⟩
  rw [decide_eq_true h2, Bool.true_and] at hR2
  by_cases h3 : root = 0
  case neg =>
    have HF := Lib.hid (show false = R from by rw [← hR2, int_ne h3]; rfl)
    have hi : ¬ (ns.length : Int) < 1 := by omega
    have hi2 : ¬ (200 : Int) < (ns.length : Int) := by omega
    have hi3 : (root != 0) = true := by simpa using h3
    generalize ns.length = L at hi hi2 ⊢
    clear hR hR2 hN hs hT h1 h2 h3
    go_enter Tryd.func9, Tryd.ntmps9
    go_wp2_with fail
    go_ret
    exact ⟨ret_bool HF.out, HBX.out _⟩
  subst h3
  have HND := Lib.hid (fun m x (hx : ns[m]? = some x) => NsAt.node hN hx)
  have HPT := Lib.hid (fun m x (hx : ns[m]? = some x) => (SlAt.ptr hN hx))
  have HS := Lib.hid hs
  have HT := Lib.hid hT
  have HWK := Lib.hid (fun W (hb : Below w.heap.size w W) => rwalk_any (root := 0) hN ns.length 0 W hb h1 (by omega))
  obtain ⟨X, hX⟩ : ∃ X, (rwalkT ns ns.length 0 == some ns.length) = X := ⟨_, rfl⟩
  have HR := Lib.hid (show (ns.all oneN && X) = R from by rw [← hX]; simpa using hR2)
  have HX := Lib.hid (show (rwalkV (rwalkT ns ns.length 0) == (ns.length : Int)) = X from by rw [walkV_is]; exact hX)
  obtain ⟨V, hV⟩ : ∃ V, rwalkV (rwalkT ns ns.length 0) = V := ⟨_, rfl⟩
  rw [hV] at HX HWK
  obtain ⟨L, hL⟩ : ∃ L, ns.length = L := ⟨_, rfl⟩
  have HL := Lib.hid hL
  rw [hL] at HX HWK h1 h2 ⊢
  have hL1 : ¬ (L : Int) < 1 := by omega
  have hL2 : ¬ (200 : Int) < (L : Int) := by omega
  have hL3 : (L : Int) ≤ 200 := by omega
  have HPC := Lib.hid (prog_cells w (.slice np L nc) (.int .i64 0) 24)
  clear hR hR2 hX hV hL hN hs hT h1 h2
  go_enter Tryd.func9, Tryd.ntmps9
  go_wp2_with fail
  obtain ⟨w1, hw1⟩ : ∃ w1, w.alloc (.cells #[.slice np L nc, .int .i64 0] 24) = w1 := ⟨_, rfl⟩
  have HB1 := Lib.hid (show Below w.heap.size w w1 by rw [← hw1]; exact HBX.out _)
  have HPC := Lib.hid (show ∀ W, Below w1.heap.size w1 W → _ from by rw [← hw1]; exact HPC.out)
  rw [hw1]
  clear hw1
  go_loopw [3] (fun i wr => ∃ j, j ≤ L ∧ i = .int .i64 (j : Int) ∧ Below w1.heap.size w1 wr ∧ ((ns.drop j).all oneN && X) = R) (fun i _ => L - (intOf i).toNat)
  case atStart => exact ⟨0, by omega, rfl, Below.refl _ _, by rw [List.drop_zero]; exact HR.out⟩
  case round =>
    obtain ⟨j, hj, rfl, hb, hsd⟩ := hrel
    obtain ⟨p0, p1⟩ := HPC.out wr hb
    have HB := Lib.hid hb
    have HW0 := Lib.hid (HB1.out.trans (hb.mono HB1.out.size))
    by_cases hlt : j < L
    · obtain ⟨n, hn⟩ : ∃ n, ns[j]? = some n := ⟨_, List.getElem?_eq_getElem (by rw [HL.out]; exact hlt)⟩
      obtain ⟨bb, oo, hpo, kb, wp, pp, ap, rp, kc, wc, pc, ac, rc, -, gw, gp, ga, gr, e0, e1, e2, e3, e4, e5, e6⟩ := HND.out j n hn
      obtain ⟨m0, m1, m2, m3, m4, m5, m6⟩ := stay7 ⟨e0, e1, e2, e3, e4, e5, e6⟩ HW0.out
      subst hpo
      have hone := rone_any n kb wp pp ap rp kc wc pc ac rc wr (WsAt.below gw HW0.out) (PatsAt.below gp HW0.out) (AsAt.below ga HW0.out) (AsAt.below gr HW0.out) (HS.out n (List.mem_of_getElem? hn)) (HT.out.below HW0.out)
      unfold NV nodeV at hone
      obtain ⟨O, hO⟩ : ∃ O, oneN n = O := ⟨_, rfl⟩
      rw [drop_get hn, List.all_cons, hO] at hsd
      rw [hO] at hone
      obtain ⟨KL, hKL⟩ : ∃ L, n.kids.length = L := ⟨_, rfl⟩
      obtain ⟨WL, hWL⟩ : ∃ L, n.words.length = L := ⟨_, rfl⟩
      obtain ⟨PL, hPL⟩ : ∃ L, n.pats.length = L := ⟨_, rfl⟩
      obtain ⟨AL, hAL⟩ : ∃ L, n.assigns.length = L := ⟨_, rfl⟩
      obtain ⟨RL, hRL⟩ : ∃ L, n.redirs.length = L := ⟨_, rfl⟩
      obtain ⟨xo, hxo⟩ : ∃ L, T n.op = L := ⟨_, rfl⟩
      obtain ⟨xn, hxn⟩ : ∃ L, T n.name = L := ⟨_, rfl⟩
      rw [hKL] at m2 hone
      rw [hWL] at m3 hone
      rw [hPL] at m4 hone
      rw [hAL] at m5 hone
      rw [hRL] at m6 hone
      rw [hxo] at m0
      rw [hxn] at m1
      have HONE := Lib.hid (show Calls Tryd.prog 16 #[.agg #[.string xo, .string xn, .slice kb KL kc, .slice wp WL wc, .slice pp PL pc, .slice ap AL ac, .slice rp RL rc]] wr fun e w' => e = .returned (.bool O) ∧ Below wr.heap.size wr w' from by rw [← hxo, ← hxn]; exact hone)
      have HSD := Lib.hid hsd
      have hj0 : (j : Int) < (L : Int) := by omega
      have HJ := Lib.hid hlt
      clear hone hO hKL hWL hPL hAL hRL hxo hxn hsd hb hlt hj hn gw gp ga gr e0 e1 e2 e3 e4 e5 e6
      cases O
      · have HF := Lib.hid (show false = R from HSD.out)
        go_wp2_with (go_at_call 16; refine HONE.out.mono ?_; rintro e w2 ⟨rfl, hb2⟩; have HB2 := Lib.hid hb2; clear hb2)
        go_ret
        exact ⟨ret_bool HF.out, HW0.out.trans (HB2.out.mono HW0.out.size)⟩
      · have HF := Lib.hid (show ((ns.drop (j + 1)).all oneN && X) = R from HSD.out)
        go_wp2_with (go_at_call 16; refine HONE.out.mono ?_; rintro e w2 ⟨rfl, hb2⟩; have HB2 := Lib.hid hb2; clear hb2)
        exact ⟨⟨j + 1, by have := HJ.out; omega, by go_num, HB.out.trans (HB2.out.mono HB.out.size), HF.out⟩, by have := HJ.out; simp [intOf]; omega⟩
    · obtain rfl : j = L := by omega
      have hj0 : ¬ (j : Int) < (j : Int) := by omega
      rw [List.drop_of_length_le (by rw [HL.out]; exact Nat.le_refl _)] at hsd
      have HF := Lib.hid (show (V == (j : Int)) = R from by rw [HX.out]; simpa using hsd)
      have HQ := Lib.hid (And.intro p0 p1)
      have HWD := Lib.hid (show Calls Tryd.prog 17 #[.agg #[.slice np j nc, .int .i64 0], .int .i64 0] wr.drew fun e w' => e = .returned (.int .i64 V) ∧ Below wr.heap.size wr w' from by
        refine (HWK.out wr.drew (HW0.out.trans ((below_drew1 _ _).mono HW0.out.size))).mono ?_
        rintro e w' ⟨rfl, hb⟩
        exact ⟨rfl, (below_drew1 _ _).trans hb⟩)
      obtain ⟨Q, hQ⟩ : ∃ Q, (V == (j : Int)) = Q := ⟨_, rfl⟩
      rw [hQ] at HF
      clear hsd hb hlt hj
      go_wp2_with fail
      refine wp_region_held_drew (S := (fun W => W.cell? ⟨w.heap.size, 0, none⟩ = some (.slice np j nc) ∧ W.cell? ⟨w.heap.size, 1, none⟩ = some (.int .i64 0))) (by kernel_rfl) ?_ (fun hHeld => ?_)
      · exact HQ.out
      refine takeW (i := 0) (k := 33) (v := ?_) rfl (by kernel_rfl) (by kernel_rfl) (by kernel_rfl) (by kernel_rfl) (fun _ _ _ h => h) (by rfl) ?_ (by assumption) ?_
      rotate_left
      · intro w hSw; (try dsimp only at hSw); go_simp <;> (with_reducible rfl)
      simp only [List.setIfInBounds_toArray, List.set_cons_zero, List.set_cons_succ]
      refine takeW (i := 2) (k := 35) (v := ?_) rfl (by kernel_rfl) (by kernel_rfl) (by kernel_rfl) (by kernel_rfl) (fun _ _ _ h => h) (by rfl) ?_ (by assumption) ?_
      rotate_left
      · intro w hSw; (try dsimp only at hSw); go_simp <;> (with_reducible rfl)
      simp only [List.setIfInBounds_toArray, List.set_cons_zero, List.set_cons_succ]
      refine takeW (i := 3) (k := 36) (v := ?_) rfl (by kernel_rfl) (by kernel_rfl) (by kernel_rfl) (by kernel_rfl) (fun _ _ _ h => h) (by rfl) ?_ (by assumption) ?_
      rotate_left
      · intro w hSw; (try dsimp only at hSw); go_simp <;> (with_reducible rfl)
      simp only [List.setIfInBounds_toArray, List.set_cons_zero, List.set_cons_succ]
      refine takeW (i := 4) (k := 37) (v := ?_) rfl (by kernel_rfl) (by kernel_rfl) (by kernel_rfl) (by kernel_rfl) (fun _ _ _ h => h) (by rfl) ?_ (by assumption) ?_
      rotate_left
      · intro w hSw; (try dsimp only at hSw); go_simp <;> (with_reducible rfl)
      simp only [List.setIfInBounds_toArray, List.set_cons_zero, List.set_cons_succ]
      refine wpAnyH_ready (rs := [1]) (by kernel_rfl) (by simp) ?_
      refine AllReadyH.cons rfl (fun K hK => ?_) ?_
      rotate_left
      · exact AllReadyH.nil
      go_simp
      go_wp2_with ((go_at_call 17; refine HWD.out.mono ?_; rintro e w2 ⟨rfl, hb2⟩; have HB2 := Lib.hid hb2; have HQ2 := Lib.hid (And.intro (cell_below HQ.out.1 hb2) (cell_below HQ.out.2 hb2)); clear hb2))
      refine hK.out _ _ ?_ (fun hHeld => ?_)
      · exact HQ2.out
      clear hK K
      refine takeW (i := 5) (k := 38) (v := ?_) rfl (by kernel_rfl) (by kernel_rfl) (by kernel_rfl) (by kernel_rfl) (fun _ _ _ h => h) (by rfl) ?_ (by assumption) ?_
      rotate_left
      · intro w hSw; (try dsimp only at hSw); go_simp <;> (with_reducible rfl)
      simp only [List.setIfInBounds_toArray, List.set_cons_zero, List.set_cons_succ]
      refine takeW (i := 6) (k := 2) (v := ?_) rfl (by kernel_rfl) (by kernel_rfl) (by kernel_rfl) (by kernel_rfl) (fun _ _ _ h => h) (by rfl) ?_ (by assumption) ?_
      rotate_left
      · intro w hSw; (try dsimp only at hSw); go_simp <;> (with_reducible rfl)
      simp only [List.setIfInBounds_toArray, List.set_cons_zero, List.set_cons_succ]
      refine wpAnyH_done (by kernel_rfl) ?_ _
      go_wp2_with fail
      go_ret
      exact ⟨ret_bool HF.out, HW0.out.trans (HB2.out.mono HW0.out.size)⟩
end Go.Proofs.YtloaalapkmbgeaaDoor

namespace Go.Proofs.YtloaalapkmbgeaaDoor
open Go Go.RowKit GlyphMath LexMath TreeMath

set_option maxRecDepth 100000 in
theorem long_any (np : Option Addr) (L nc : Nat) (root : Int) (w : World) :
    Calls Tryd.prog 7 #[.agg #[.slice np L nc, .int .i64 root]] w fun e w' => e = .returned (.bool (decide ((60 : Int) < (L : Int)))) ∧ Below w.heap.size w w' := by
  have HB := Lib.hid (fun o => below_one w o)
  by_cases h : (60 : Int) < (L : Int)
  · rw [decide_eq_true h]
    go_enter Tryd.func7, Tryd.ntmps7
    go_wp2_with fail
    go_ret
    exact ⟨ret_bool (by first | rfl | (simp; omega)), HB.out _⟩
  · rw [decide_eq_false h]
    go_enter Tryd.func7, Tryd.ntmps7
    go_wp2_with fail
    go_ret
    exact ⟨ret_bool (by first | rfl | (simp; omega)), HB.out _⟩

set_option linter.unusedSimpArgs false in
set_option maxHeartbeats 2000000 in
set_option maxRecDepth 100000 in
theorem is_law (ns : List Nd) (root : Int) (np : Option Addr) (nc : Nat) (w : World) (hN : NsAt w (.slice np ns.length nc) ns) (hs : ∀ n ∈ ns, NFew n) (hS : Shapes w) (hT : Tabs w) :
    Calls Tryd.prog 3 #[.agg #[.slice np ns.length nc, .int .i64 root]] w fun e w' => e = .returned (.bool true) ∧ Below w.heap.size w w' := by
  have HBX := Lib.hid (fun o => below_one w o)
  have HLG := Lib.hid (fun W => long_any np ns.length nc root W)
  have HA := Lib.hid (fun W (hb : Below w.heap.size w W) => is_any ns root np nc W (NsAt.below hN hb) (hS.below hb) (fun n hn => (hs n hn).small))
  have HR := Lib.hid (fun W (hb : Below w.heap.size w W) => ris_any ns root np nc W (NsAt.below hN hb) hs (hT.below hb))
  have HK := Lib.hid (fun W (hb : Below w.heap.size w W) => known_any W (hS.below hb))
  obtain ⟨R, hR⟩ : ∃ R, isT ns root = R := ⟨_, rfl⟩
  rw [hR] at HA HR
  obtain ⟨L, hL⟩ : ∃ L, ns.length = L := ⟨_, rfl⟩
  rw [hL] at HLG HA HR ⊢
  have HPC := Lib.hid (prog_cells w (.slice np L nc) (.int .i64 root) 24)
  clear hN hs hS hT hR hL
  by_cases hl : (60 : Int) < (L : Int)
  · have hd := decide_eq_true hl
    rw [hd] at HLG
    clear hd hl
    go_enter Tryd.func3, Tryd.ntmps3
    go_wp2_with (go_at_call 7; refine (HLG.out _).mono ?_; rintro e w1 ⟨rfl, hb⟩; have HB1 := Lib.hid ((HBX.out _).trans (hb.mono (HBX.out _).size)); clear hb)
    go_ret
    exact ⟨rfl, HB1.out⟩
  · have hd := decide_eq_false hl
    rw [hd] at HLG
    clear hd hl
    cases R
    all_goals
      go_enter Tryd.func3, Tryd.ntmps3
      go_wp2_with fail
      obtain ⟨v, hv⟩ : ∃ v, w.alloc (.cells #[.slice np L nc, .int .i64 root] 24) = v := ⟨_, rfl⟩
      have HV := Lib.hid (show Below w.heap.size w v by rw [← hv]; exact HBX.out _)
      have HPC := Lib.hid (show ∀ W, Below v.heap.size v W → _ from by rw [← hv]; exact HPC.out)
      rw [hv]
      clear hv
      refine (HLG.out _).mono ?_
      rintro e w1 ⟨rfl, hb⟩
      have HQ1 := Lib.hid hb
      obtain ⟨p0, p1⟩ := HPC.out w1 HQ1.out
      have HP1 := Lib.hid (And.intro p0 p1)
      clear hb
      go_wp2_with fail
      refine wp_region_held_drew (S := (fun W => W.cell? ⟨w.heap.size, 0, none⟩ = some (.slice np L nc) ∧ W.cell? ⟨w.heap.size, 1, none⟩ = some (.int .i64 root))) (by kernel_rfl) ?_ (fun hHeld => ?_)
      · exact HP1.out
      refine takeW (i := 0) (k := 5) (v := ?_) rfl (by kernel_rfl) (by kernel_rfl) (by kernel_rfl) (by kernel_rfl) (fun _ _ _ h => h) (by rfl) ?_ (by assumption) ?_
      rotate_left
      · intro w hSw; (try dsimp only at hSw); go_simp <;> (with_reducible rfl)
      simp only [List.setIfInBounds_toArray, List.set_cons_zero, List.set_cons_succ]
      refine takeW (i := 2) (k := 7) (v := ?_) rfl (by kernel_rfl) (by kernel_rfl) (by kernel_rfl) (by kernel_rfl) (fun _ _ _ h => h) (by rfl) ?_ (by assumption) ?_
      rotate_left
      · intro w hSw; (try dsimp only at hSw); go_simp <;> (with_reducible rfl)
      simp only [List.setIfInBounds_toArray, List.set_cons_zero, List.set_cons_succ]
      refine wpAnyH_ready (rs := [1]) (by kernel_rfl) (by simp) ?_
      refine AllReadyH.cons rfl (fun K hK => ?_) ?_
      rotate_left
      · exact AllReadyH.nil
      go_simp
      go_wp2_with ((go_at_call 8; refine (HA.out _ (HV.out.trans ((HQ1.out.trans ((below_drew1 w1.heap.size w1).mono HQ1.out.size)).mono HV.out.size))).mono ?_; rintro e w2 ⟨rfl, hb⟩; have HQ2 := Lib.hid ((HQ1.out.trans ((below_drew1 w1.heap.size w1).mono HQ1.out.size)).trans (hb.mono HQ1.out.size)); have HP2 := Lib.hid (HPC.out w2 HQ2.out); clear hb))
      refine hK.out _ _ ?_ (fun hHeld => ?_)
      · exact HP2.out
      clear hK K
      refine wpAnyH_ready (rs := [3]) (by kernel_rfl) (by simp) ?_
      refine AllReadyH.cons rfl (fun K hK => ?_) ?_
      rotate_left
      · exact AllReadyH.nil
      go_simp
      go_wp2_with ((go_at_call 9; refine (HR.out _ (HV.out.trans (HQ2.out.mono HV.out.size))).mono ?_; rintro e w3 ⟨rfl, hb⟩; have HQ3 := Lib.hid (HQ2.out.trans (hb.mono HQ2.out.size)); have HP3 := Lib.hid (HPC.out w3 HQ3.out); clear hb))
      refine hK.out _ _ ?_ (fun hHeld => ?_)
      · exact HP3.out
      clear hK K
      refine takeW (i := 4) (k := 9) (v := ?_) rfl (by kernel_rfl) (by kernel_rfl) (by kernel_rfl) (by kernel_rfl) (fun _ _ _ h => h) (by rfl) ?_ (by assumption) ?_
      rotate_left
      · intro w hSw; (try dsimp only at hSw); go_simp <;> (with_reducible rfl)
      simp only [List.setIfInBounds_toArray, List.set_cons_zero, List.set_cons_succ]
      refine takeW (i := 5) (k := 10) (v := ?_) rfl (by kernel_rfl) (by kernel_rfl) (by kernel_rfl) (by kernel_rfl) (fun _ _ _ h => h) (by rfl) ?_ (by assumption) ?_
      rotate_left
      · intro w hSw; (try dsimp only at hSw); go_simp <;> (with_reducible rfl)
      simp only [List.setIfInBounds_toArray, List.set_cons_zero, List.set_cons_succ]
      refine wpAnyH_ready (rs := [6]) (by kernel_rfl) (by simp) ?_
      refine AllReadyH.cons rfl (fun K hK => ?_) ?_
      rotate_left
      · exact AllReadyH.nil
      go_simp
      go_wp2_with ((go_at_call 10; refine (HK.out _ (HV.out.trans (HQ3.out.mono HV.out.size))).mono ?_; rintro e w4 ⟨rfl, hb⟩; have HQ4 := Lib.hid (HQ3.out.trans (hb.mono HQ3.out.size)); have HP4 := Lib.hid (HPC.out w4 HQ4.out); clear hb))
      refine hK.out _ _ ?_ (fun hHeld => ?_)
      · exact HP4.out
      clear hK K
      refine takeW (i := 7) (k := 12) (v := ?_) rfl (by kernel_rfl) (by kernel_rfl) (by kernel_rfl) (by kernel_rfl) (fun _ _ _ h => h) (by rfl) ?_ (by assumption) ?_
      rotate_left
      · intro w hSw; (try dsimp only at hSw); go_simp <;> (with_reducible rfl)
      simp only [List.setIfInBounds_toArray, List.set_cons_zero, List.set_cons_succ]
      refine takeW (i := 8) (k := 2) (v := ?_) rfl (by kernel_rfl) (by kernel_rfl) (by kernel_rfl) (by kernel_rfl) (fun _ _ _ h => h) (by rfl) ?_ (by assumption) ?_
      rotate_left
      · intro w hSw; (try dsimp only at hSw); go_simp <;> (with_reducible rfl)
      simp only [List.setIfInBounds_toArray, List.set_cons_zero, List.set_cons_succ]
      refine wpAnyH_done (by kernel_rfl) ?_ _
      go_wp2_with fail
      go_ret
      exact ⟨rfl, HV.out.trans (HQ4.out.mono HV.out.size)⟩
end Go.Proofs.YtloaalapkmbgeaaDoor
