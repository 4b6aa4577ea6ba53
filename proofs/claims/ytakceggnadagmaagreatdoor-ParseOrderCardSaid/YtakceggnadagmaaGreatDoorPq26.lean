/-
  Proved: contracts of functions, plain facts. Conditions: as each says.
-/
import Derived.Test.YtakceggnadagmaaGreatDoorPq23
import Derived.Test.YtakceggnadagmaaGreatDoorPq00
namespace Go.Proofs.YtakceggnadagmaaGreatDoor
open Go Go.RowKit GlyphMath LexMath TreeMath
set_option maxHeartbeats 16000000 in
set_option maxRecDepth 100000 in
theorem rone_if {w:World} {o x:ByteArray} {kp wp pp ap rp:Option Addr} {KL WL PL AL RL kc wc pc ac rc:Nat} {RD CM N RS WA PT EA EP EN EW:Bool} (ho:o.toList= [105,102]) (h:OneC w o x kp wp pp ap rp KL WL PL AL RL kc wc pc ac rc RD CM N RS WA PT)
    (hA:decide ((0:Int)<(AL:Int))= !EA) (hP:decide ((0:Int)<(PL:Int))= !EP) (hW:decide ((0:Int)<(WL:Int))= !EW) (hN:x.toList.isEmpty=EN):
    Calls Tryz.prog 15 #[.agg #[.string o,.string x,.slice kp KL kc,.slice wp WL wc,.slice pp PL pc,.slice ap AL ac,.slice rp RL rc]] w fun e w'=>e= .returned (.bool (RD&&(EA&&(EP&&(EN&&(EW&&(((KL:Int)==2)||((KL:Int)==3))))))))∧Below w.heap.size w w':=by
  have q0:(o.toList== [99,109,100])=false:=(by rw[ho];decide);have q1:(o.toList== [115,101,113])=false:=(by rw[ho];decide);have q2:(o.toList== [97,110,100])=false:=(by rw[ho];decide);have q3:(o.toList== [111,114])=false:=(by rw[ho];decide);have q4:(o.toList== [110,111,116])=false:=(by rw[ho];decide);have q5:(o.toList== [112,105,112,101])=false:=(by rw[ho];decide);have q6:(o.toList== [105,102])=true:=(by rw[ho];decide);have q7:(o.toList== [119,104,105,108,101])=false:=(by rw[ho];decide);have q8:(o.toList== [117,110,116,105,108])=false:=(by rw[ho];decide);have q9:(o.toList== [102,111,114])=false:=(by rw[ho];decide);have q10:(o.toList== [99,97,115,101])=false:=(by rw[ho];decide);have q11:(o.toList== [102,117,110])=false:=(by rw[ho];decide);have q12:(o.toList== [103,114,111,117,112])=false:=(by rw[ho];decide);have q13:(o.toList== [115,117,98])=false:=(by rw[ho];decide);have HH:=yH h;have HA:=yH (node_all w o x (.slice kp KL kc) (.slice wp WL wc) (.slice pp PL pc) (.slice ap AL ac) (.slice rp RL rc) 44);have HBX:=yH (fun o=>below_one w o);clear h ho
  cases RD with
  |false=>
    go_enter Tryz.func15,Tryz.ntmps15;go_wp2_with fail;obtain⟨v,hv⟩:∃v,w.alloc (.cells #[.string o,.string x,.slice kp KL kc,.slice wp WL wc,.slice pp PL pc,.slice ap AL ac,.slice rp RL rc] 44)=v:=⟨_,rfl⟩;have HV:=yH (show Below w.heap.size w v by rw[←hv];exact HBX.out _);have HA:=yH (show ∀W,Below v.heap.size v W→_ from by rw[←hv];exact HA.out);rw[hv];clear hv;refine(HH.out.rd _ HV.out).mono ?_;rintro e w1 ⟨rfl,hb⟩;have HQ1:=yH hb;obtain⟨n0,n1,n2,n3,n4,n5,n6⟩:=HA.out w1 HQ1.out;clear hb;go_wp2_with fail;go_ret;exact rB HV HQ1
  |true=>
    cases EA with
    |false=>
      replace hA:(0:Int)<(AL:Int):=of_decide_eq_true hA;go_enter Tryz.func15,Tryz.ntmps15;go_wp2_with fail;obtain⟨v,hv⟩:∃v,w.alloc (.cells #[.string o,.string x,.slice kp KL kc,.slice wp WL wc,.slice pp PL pc,.slice ap AL ac,.slice rp RL rc] 44)=v:=⟨_,rfl⟩;have HV:=yH (show Below w.heap.size w v by rw[←hv];exact HBX.out _);have HA:=yH (show ∀W,Below v.heap.size v W→_ from by rw[←hv];exact HA.out);rw[hv];clear hv;refine(HH.out.rd _ HV.out).mono ?_;rintro e w1 ⟨rfl,hb⟩;have HQ1:=yH hb;obtain⟨n0,n1,n2,n3,n4,n5,n6⟩:=HA.out w1 HQ1.out;clear hb;go_wp2_with fail;go_ret;exact rB HV HQ1
    |true=>
      replace hA:¬(0:Int)<(AL:Int):=of_decide_eq_false hA
      cases EP with
      |false=>
        replace hP:(0:Int)<(PL:Int):=of_decide_eq_true hP;go_enter Tryz.func15,Tryz.ntmps15;go_wp2_with fail;obtain⟨v,hv⟩:∃v,w.alloc (.cells #[.string o,.string x,.slice kp KL kc,.slice wp WL wc,.slice pp PL pc,.slice ap AL ac,.slice rp RL rc] 44)=v:=⟨_,rfl⟩;have HV:=yH (show Below w.heap.size w v by rw[←hv];exact HBX.out _);have HA:=yH (show ∀W,Below v.heap.size v W→_ from by rw[←hv];exact HA.out);rw[hv];clear hv;refine(HH.out.rd _ HV.out).mono ?_;rintro e w1 ⟨rfl,hb⟩;have HQ1:=yH hb;obtain⟨n0,n1,n2,n3,n4,n5,n6⟩:=HA.out w1 HQ1.out;clear hb;go_wp2_with fail;go_ret;exact rB HV HQ1
      |true=>
        replace hP:¬(0:Int)<(PL:Int):=of_decide_eq_false hP
        cases EN with
        |false=>
          go_enter Tryz.func15,Tryz.ntmps15;go_wp2_with fail;obtain⟨v,hv⟩:∃v,w.alloc (.cells #[.string o,.string x,.slice kp KL kc,.slice wp WL wc,.slice pp PL pc,.slice ap AL ac,.slice rp RL rc] 44)=v:=⟨_,rfl⟩;have HV:=yH (show Below w.heap.size w v by rw[←hv];exact HBX.out _);have HA:=yH (show ∀W,Below v.heap.size v W→_ from by rw[←hv];exact HA.out);rw[hv];clear hv;refine(HH.out.rd _ HV.out).mono ?_;rintro e w1 ⟨rfl,hb⟩;have HQ1:=yH hb;obtain⟨n0,n1,n2,n3,n4,n5,n6⟩:=HA.out w1 HQ1.out;clear hb;go_wp2_with fail;go_ret;exact rB HV HQ1
        |true=>
          cases EW with
          |false=>
            replace hW:(0:Int)<(WL:Int):=of_decide_eq_true hW;go_enter Tryz.func15,Tryz.ntmps15;go_wp2_with fail;obtain⟨v,hv⟩:∃v,w.alloc (.cells #[.string o,.string x,.slice kp KL kc,.slice wp WL wc,.slice pp PL pc,.slice ap AL ac,.slice rp RL rc] 44)=v:=⟨_,rfl⟩;have HV:=yH (show Below w.heap.size w v by rw[←hv];exact HBX.out _);have HA:=yH (show ∀W,Below v.heap.size v W→_ from by rw[←hv];exact HA.out);rw[hv];clear hv;refine(HH.out.rd _ HV.out).mono ?_;rintro e w1 ⟨rfl,hb⟩;have HQ1:=yH hb;obtain⟨n0,n1,n2,n3,n4,n5,n6⟩:=HA.out w1 HQ1.out;clear hb;go_wp2_with fail;go_ret;exact rB HV HQ1
          |true=>
            replace hW:¬(0:Int)<(WL:Int):=of_decide_eq_false hW;obtain⟨K,hK⟩:∃K,((KL:Int)==2)=K:=⟨_,rfl⟩;obtain⟨K3,hK3⟩:∃K,((KL:Int)==3)=K:=⟨_,rfl⟩;rw[hK,hK3]
            cases K with
            |false=>
              go_enter Tryz.func15,Tryz.ntmps15;go_wp2_with fail;obtain⟨v,hv⟩:∃v,w.alloc (.cells #[.string o,.string x,.slice kp KL kc,.slice wp WL wc,.slice pp PL pc,.slice ap AL ac,.slice rp RL rc] 44)=v:=⟨_,rfl⟩;have HV:=yH (show Below w.heap.size w v by rw[←hv];exact HBX.out _);have HA:=yH (show ∀W,Below v.heap.size v W→_ from by rw[←hv];exact HA.out);rw[hv];clear hv;refine(HH.out.rd _ HV.out).mono ?_;rintro e w1 ⟨rfl,hb⟩;have HQ1:=yH hb;obtain⟨n0,n1,n2,n3,n4,n5,n6⟩:=HA.out w1 HQ1.out;clear hb;go_wp2_with fail;go_ret;exact rB HV HQ1
            |true=>
              go_enter Tryz.func15,Tryz.ntmps15;go_wp2_with fail;obtain⟨v,hv⟩:∃v,w.alloc (.cells #[.string o,.string x,.slice kp KL kc,.slice wp WL wc,.slice pp PL pc,.slice ap AL ac,.slice rp RL rc] 44)=v:=⟨_,rfl⟩;have HV:=yH (show Below w.heap.size w v by rw[←hv];exact HBX.out _);have HA:=yH (show ∀W,Below v.heap.size v W→_ from by rw[←hv];exact HA.out);rw[hv];clear hv;refine(HH.out.rd _ HV.out).mono ?_;rintro e w1 ⟨rfl,hb⟩;have HQ1:=yH hb;obtain⟨n0,n1,n2,n3,n4,n5,n6⟩:=HA.out w1 HQ1.out;clear hb;go_wp2_with fail;go_ret;exact rB HV HQ1
set_option maxHeartbeats 16000000 in
set_option maxRecDepth 100000 in
theorem rone_for {w:World} {o x:ByteArray} {kp wp pp ap rp:Option Addr} {KL WL PL AL RL kc wc pc ac rc:Nat} {RD CM N RS WA PT EA EP EN EW:Bool} (ho:o.toList= [102,111,114]) (h:OneC w o x kp wp pp ap rp KL WL PL AL RL kc wc pc ac rc RD CM N RS WA PT)
    (hA:decide ((0:Int)<(AL:Int))= !EA) (hP:decide ((0:Int)<(PL:Int))= !EP) (_hW:decide ((0:Int)<(WL:Int))= !EW) (_hN:x.toList.isEmpty=EN):
    Calls Tryz.prog 15 #[.agg #[.string o,.string x,.slice kp KL kc,.slice wp WL wc,.slice pp PL pc,.slice ap AL ac,.slice rp RL rc]] w fun e w'=>e= .returned (.bool (RD&&(EA&&(EP&&(((KL:Int)==1)&&(N&&WA))))))∧Below w.heap.size w w':=by
  have q0:(o.toList== [99,109,100])=false:=(by rw[ho];decide);have q1:(o.toList== [115,101,113])=false:=(by rw[ho];decide);have q2:(o.toList== [97,110,100])=false:=(by rw[ho];decide);have q3:(o.toList== [111,114])=false:=(by rw[ho];decide);have q4:(o.toList== [110,111,116])=false:=(by rw[ho];decide);have q5:(o.toList== [112,105,112,101])=false:=(by rw[ho];decide);have q6:(o.toList== [105,102])=false:=(by rw[ho];decide);have q7:(o.toList== [119,104,105,108,101])=false:=(by rw[ho];decide);have q8:(o.toList== [117,110,116,105,108])=false:=(by rw[ho];decide);have q9:(o.toList== [102,111,114])=true:=(by rw[ho];decide);have q10:(o.toList== [99,97,115,101])=false:=(by rw[ho];decide);have q11:(o.toList== [102,117,110])=false:=(by rw[ho];decide);have q12:(o.toList== [103,114,111,117,112])=false:=(by rw[ho];decide);have q13:(o.toList== [115,117,98])=false:=(by rw[ho];decide);have HH:=yH h;have HA:=yH (node_all w o x (.slice kp KL kc) (.slice wp WL wc) (.slice pp PL pc) (.slice ap AL ac) (.slice rp RL rc) 44);have HBX:=yH (fun o=>below_one w o);clear h ho
  cases RD with
  |false=>
    go_enter Tryz.func15,Tryz.ntmps15;go_wp2_with fail;obtain⟨v,hv⟩:∃v,w.alloc (.cells #[.string o,.string x,.slice kp KL kc,.slice wp WL wc,.slice pp PL pc,.slice ap AL ac,.slice rp RL rc] 44)=v:=⟨_,rfl⟩;have HV:=yH (show Below w.heap.size w v by rw[←hv];exact HBX.out _);have HA:=yH (show ∀W,Below v.heap.size v W→_ from by rw[←hv];exact HA.out);rw[hv];clear hv;refine(HH.out.rd _ HV.out).mono ?_;rintro e w1 ⟨rfl,hb⟩;have HQ1:=yH hb;obtain⟨n0,n1,n2,n3,n4,n5,n6⟩:=HA.out w1 HQ1.out;clear hb;go_wp2_with fail;go_ret;exact rB HV HQ1
  |true=>
    cases EA with
    |false=>
      replace hA:(0:Int)<(AL:Int):=of_decide_eq_true hA;go_enter Tryz.func15,Tryz.ntmps15;go_wp2_with fail;obtain⟨v,hv⟩:∃v,w.alloc (.cells #[.string o,.string x,.slice kp KL kc,.slice wp WL wc,.slice pp PL pc,.slice ap AL ac,.slice rp RL rc] 44)=v:=⟨_,rfl⟩;have HV:=yH (show Below w.heap.size w v by rw[←hv];exact HBX.out _);have HA:=yH (show ∀W,Below v.heap.size v W→_ from by rw[←hv];exact HA.out);rw[hv];clear hv;refine(HH.out.rd _ HV.out).mono ?_;rintro e w1 ⟨rfl,hb⟩;have HQ1:=yH hb;obtain⟨n0,n1,n2,n3,n4,n5,n6⟩:=HA.out w1 HQ1.out;clear hb;go_wp2_with fail;go_ret;exact rB HV HQ1
    |true=>
      replace hA:¬(0:Int)<(AL:Int):=of_decide_eq_false hA
      cases EP with
      |false=>
        replace hP:(0:Int)<(PL:Int):=of_decide_eq_true hP;go_enter Tryz.func15,Tryz.ntmps15;go_wp2_with fail;obtain⟨v,hv⟩:∃v,w.alloc (.cells #[.string o,.string x,.slice kp KL kc,.slice wp WL wc,.slice pp PL pc,.slice ap AL ac,.slice rp RL rc] 44)=v:=⟨_,rfl⟩;have HV:=yH (show Below w.heap.size w v by rw[←hv];exact HBX.out _);have HA:=yH (show ∀W,Below v.heap.size v W→_ from by rw[←hv];exact HA.out);rw[hv];clear hv;refine(HH.out.rd _ HV.out).mono ?_;rintro e w1 ⟨rfl,hb⟩;have HQ1:=yH hb;obtain⟨n0,n1,n2,n3,n4,n5,n6⟩:=HA.out w1 HQ1.out;clear hb;go_wp2_with fail;go_ret;exact rB HV HQ1
      |true=>
        replace hP:¬(0:Int)<(PL:Int):=of_decide_eq_false hP;obtain⟨K,hK⟩:∃K,((KL:Int)==1)=K:=⟨_,rfl⟩;rw[hK]
        cases K with
        |false=>
          go_enter Tryz.func15,Tryz.ntmps15;go_wp2_with fail;obtain⟨v,hv⟩:∃v,w.alloc (.cells #[.string o,.string x,.slice kp KL kc,.slice wp WL wc,.slice pp PL pc,.slice ap AL ac,.slice rp RL rc] 44)=v:=⟨_,rfl⟩;have HV:=yH (show Below w.heap.size w v by rw[←hv];exact HBX.out _);have HA:=yH (show ∀W,Below v.heap.size v W→_ from by rw[←hv];exact HA.out);rw[hv];clear hv;refine(HH.out.rd _ HV.out).mono ?_;rintro e w1 ⟨rfl,hb⟩;have HQ1:=yH hb;obtain⟨n0,n1,n2,n3,n4,n5,n6⟩:=HA.out w1 HQ1.out;clear hb;go_wp2_with fail;go_ret;exact rB HV HQ1
        |true=>
          cases N with
          |false=>
            go_enter Tryz.func15,Tryz.ntmps15;go_wp2_with fail;obtain⟨v,hv⟩:∃v,w.alloc (.cells #[.string o,.string x,.slice kp KL kc,.slice wp WL wc,.slice pp PL pc,.slice ap AL ac,.slice rp RL rc] 44)=v:=⟨_,rfl⟩;have HV:=yH (show Below w.heap.size w v by rw[←hv];exact HBX.out _);have HA:=yH (show ∀W,Below v.heap.size v W→_ from by rw[←hv];exact HA.out);rw[hv];clear hv;refine(HH.out.rd _ HV.out).mono ?_;rintro e w1 ⟨rfl,hb⟩;have HQ1:=yH hb;obtain⟨n0,n1,n2,n3,n4,n5,n6⟩:=HA.out w1 HQ1.out;clear hb
            go_wp2_with (first
              |(go_at_call 29;refine(HH.out.nm _ (HV.out.trans (HQ1.out.mono HV.out.size))).mono ?_;rintro e w2 ⟨rfl,hb⟩;have HQ2:=yH (HQ1.out.trans (hb.mono HQ1.out.size));obtain⟨n0,n1,n2,n3,n4,n5,n6⟩:=HA.out w2 HQ2.out;clear hb))
            go_ret;exact⟨ret_bool rfl,HV.out.trans (HQ2.out.mono HV.out.size)⟩
          |true=>
            go_enter Tryz.func15,Tryz.ntmps15;go_wp2_with fail;obtain⟨v,hv⟩:∃v,w.alloc (.cells #[.string o,.string x,.slice kp KL kc,.slice wp WL wc,.slice pp PL pc,.slice ap AL ac,.slice rp RL rc] 44)=v:=⟨_,rfl⟩;have HV:=yH (show Below w.heap.size w v by rw[←hv];exact HBX.out _);have HA:=yH (show ∀W,Below v.heap.size v W→_ from by rw[←hv];exact HA.out);rw[hv];clear hv;refine(HH.out.rd _ HV.out).mono ?_;rintro e w1 ⟨rfl,hb⟩;have HQ1:=yH hb;obtain⟨n0,n1,n2,n3,n4,n5,n6⟩:=HA.out w1 HQ1.out;clear hb
            go_wp2_with (first
              |(go_at_call 29;refine(HH.out.nm _ (HV.out.trans (HQ1.out.mono HV.out.size))).mono ?_;rintro e w2 ⟨rfl,hb⟩;have HQ2:=yH (HQ1.out.trans (hb.mono HQ1.out.size));obtain⟨n0,n1,n2,n3,n4,n5,n6⟩:=HA.out w2 HQ2.out;clear hb)
              |(go_at_call 30;refine(HH.out.op _ (HV.out.trans (HQ2.out.mono HV.out.size))).mono ?_;rintro e w3 ⟨rfl,hb⟩;have HQ3:=yH (HQ2.out.trans (hb.mono HQ2.out.size));obtain⟨n0,n1,n2,n3,n4,n5,n6⟩:=HA.out w3 HQ3.out;clear hb))
            go_ret;exact⟨ret_bool rfl,HV.out.trans (HQ3.out.mono HV.out.size)⟩
set_option maxHeartbeats 16000000 in
set_option maxRecDepth 100000 in
theorem rone_fun {w:World} {o x:ByteArray} {kp wp pp ap rp:Option Addr} {KL WL PL AL RL kc wc pc ac rc:Nat} {RD CM N RS WA PT EA EP EN EW:Bool} (ho:o.toList= [102,117,110]) (h:OneC w o x kp wp pp ap rp KL WL PL AL RL kc wc pc ac rc RD CM N RS WA PT)
    (hA:decide ((0:Int)<(AL:Int))= !EA) (hP:decide ((0:Int)<(PL:Int))= !EP) (hW:decide ((0:Int)<(WL:Int))= !EW) (_hN:x.toList.isEmpty=EN):
    Calls Tryz.prog 15 #[.agg #[.string o,.string x,.slice kp KL kc,.slice wp WL wc,.slice pp PL pc,.slice ap AL ac,.slice rp RL rc]] w fun e w'=>e= .returned (.bool (RD&&(EA&&(EP&&(EW&&(((KL:Int)==1)&&(N&& !RS)))))))∧Below w.heap.size w w':=by
  have q0:(o.toList== [99,109,100])=false:=(by rw[ho];decide);have q1:(o.toList== [115,101,113])=false:=(by rw[ho];decide);have q2:(o.toList== [97,110,100])=false:=(by rw[ho];decide);have q3:(o.toList== [111,114])=false:=(by rw[ho];decide);have q4:(o.toList== [110,111,116])=false:=(by rw[ho];decide);have q5:(o.toList== [112,105,112,101])=false:=(by rw[ho];decide);have q6:(o.toList== [105,102])=false:=(by rw[ho];decide);have q7:(o.toList== [119,104,105,108,101])=false:=(by rw[ho];decide);have q8:(o.toList== [117,110,116,105,108])=false:=(by rw[ho];decide);have q9:(o.toList== [102,111,114])=false:=(by rw[ho];decide);have q10:(o.toList== [99,97,115,101])=false:=(by rw[ho];decide);have q11:(o.toList== [102,117,110])=true:=(by rw[ho];decide);have q12:(o.toList== [103,114,111,117,112])=false:=(by rw[ho];decide);have q13:(o.toList== [115,117,98])=false:=(by rw[ho];decide);have HH:=yH h;have HA:=yH (node_all w o x (.slice kp KL kc) (.slice wp WL wc) (.slice pp PL pc) (.slice ap AL ac) (.slice rp RL rc) 44);have HBX:=yH (fun o=>below_one w o);clear h ho
  cases RD with
  |false=>
    go_enter Tryz.func15,Tryz.ntmps15;go_wp2_with fail;obtain⟨v,hv⟩:∃v,w.alloc (.cells #[.string o,.string x,.slice kp KL kc,.slice wp WL wc,.slice pp PL pc,.slice ap AL ac,.slice rp RL rc] 44)=v:=⟨_,rfl⟩;have HV:=yH (show Below w.heap.size w v by rw[←hv];exact HBX.out _);have HA:=yH (show ∀W,Below v.heap.size v W→_ from by rw[←hv];exact HA.out);rw[hv];clear hv;refine(HH.out.rd _ HV.out).mono ?_;rintro e w1 ⟨rfl,hb⟩;have HQ1:=yH hb;obtain⟨n0,n1,n2,n3,n4,n5,n6⟩:=HA.out w1 HQ1.out;clear hb;go_wp2_with fail;go_ret;exact rB HV HQ1
  |true=>
    cases EA with
    |false=>
      replace hA:(0:Int)<(AL:Int):=of_decide_eq_true hA;go_enter Tryz.func15,Tryz.ntmps15;go_wp2_with fail;obtain⟨v,hv⟩:∃v,w.alloc (.cells #[.string o,.string x,.slice kp KL kc,.slice wp WL wc,.slice pp PL pc,.slice ap AL ac,.slice rp RL rc] 44)=v:=⟨_,rfl⟩;have HV:=yH (show Below w.heap.size w v by rw[←hv];exact HBX.out _);have HA:=yH (show ∀W,Below v.heap.size v W→_ from by rw[←hv];exact HA.out);rw[hv];clear hv;refine(HH.out.rd _ HV.out).mono ?_;rintro e w1 ⟨rfl,hb⟩;have HQ1:=yH hb;obtain⟨n0,n1,n2,n3,n4,n5,n6⟩:=HA.out w1 HQ1.out;clear hb;go_wp2_with fail;go_ret;exact rB HV HQ1
    |true=>
      replace hA:¬(0:Int)<(AL:Int):=of_decide_eq_false hA
      cases EP with
      |false=>
        replace hP:(0:Int)<(PL:Int):=of_decide_eq_true hP;go_enter Tryz.func15,Tryz.ntmps15;go_wp2_with fail;obtain⟨v,hv⟩:∃v,w.alloc (.cells #[.string o,.string x,.slice kp KL kc,.slice wp WL wc,.slice pp PL pc,.slice ap AL ac,.slice rp RL rc] 44)=v:=⟨_,rfl⟩;have HV:=yH (show Below w.heap.size w v by rw[←hv];exact HBX.out _);have HA:=yH (show ∀W,Below v.heap.size v W→_ from by rw[←hv];exact HA.out);rw[hv];clear hv;refine(HH.out.rd _ HV.out).mono ?_;rintro e w1 ⟨rfl,hb⟩;have HQ1:=yH hb;obtain⟨n0,n1,n2,n3,n4,n5,n6⟩:=HA.out w1 HQ1.out;clear hb;go_wp2_with fail;go_ret;exact rB HV HQ1
      |true=>
        replace hP:¬(0:Int)<(PL:Int):=of_decide_eq_false hP
        cases EW with
        |false=>
          replace hW:(0:Int)<(WL:Int):=of_decide_eq_true hW;go_enter Tryz.func15,Tryz.ntmps15;go_wp2_with fail;obtain⟨v,hv⟩:∃v,w.alloc (.cells #[.string o,.string x,.slice kp KL kc,.slice wp WL wc,.slice pp PL pc,.slice ap AL ac,.slice rp RL rc] 44)=v:=⟨_,rfl⟩;have HV:=yH (show Below w.heap.size w v by rw[←hv];exact HBX.out _);have HA:=yH (show ∀W,Below v.heap.size v W→_ from by rw[←hv];exact HA.out);rw[hv];clear hv;refine(HH.out.rd _ HV.out).mono ?_;rintro e w1 ⟨rfl,hb⟩;have HQ1:=yH hb;obtain⟨n0,n1,n2,n3,n4,n5,n6⟩:=HA.out w1 HQ1.out;clear hb;go_wp2_with fail;go_ret;exact rB HV HQ1
        |true=>
          replace hW:¬(0:Int)<(WL:Int):=of_decide_eq_false hW;obtain⟨K,hK⟩:∃K,((KL:Int)==1)=K:=⟨_,rfl⟩;rw[hK]
          cases K with
          |false=>
            go_enter Tryz.func15,Tryz.ntmps15;go_wp2_with fail;obtain⟨v,hv⟩:∃v,w.alloc (.cells #[.string o,.string x,.slice kp KL kc,.slice wp WL wc,.slice pp PL pc,.slice ap AL ac,.slice rp RL rc] 44)=v:=⟨_,rfl⟩;have HV:=yH (show Below w.heap.size w v by rw[←hv];exact HBX.out _);have HA:=yH (show ∀W,Below v.heap.size v W→_ from by rw[←hv];exact HA.out);rw[hv];clear hv;refine(HH.out.rd _ HV.out).mono ?_;rintro e w1 ⟨rfl,hb⟩;have HQ1:=yH hb;obtain⟨n0,n1,n2,n3,n4,n5,n6⟩:=HA.out w1 HQ1.out;clear hb;go_wp2_with fail;go_ret;exact rB HV HQ1
          |true=>
            cases N with
            |false=>
              go_enter Tryz.func15,Tryz.ntmps15;go_wp2_with fail;obtain⟨v,hv⟩:∃v,w.alloc (.cells #[.string o,.string x,.slice kp KL kc,.slice wp WL wc,.slice pp PL pc,.slice ap AL ac,.slice rp RL rc] 44)=v:=⟨_,rfl⟩;have HV:=yH (show Below w.heap.size w v by rw[←hv];exact HBX.out _);have HA:=yH (show ∀W,Below v.heap.size v W→_ from by rw[←hv];exact HA.out);rw[hv];clear hv;refine(HH.out.rd _ HV.out).mono ?_;rintro e w1 ⟨rfl,hb⟩;have HQ1:=yH hb;obtain⟨n0,n1,n2,n3,n4,n5,n6⟩:=HA.out w1 HQ1.out;clear hb
              go_wp2_with (first
                |(go_at_call 29;refine(HH.out.nm _ (HV.out.trans (HQ1.out.mono HV.out.size))).mono ?_;rintro e w2 ⟨rfl,hb⟩;have HQ2:=yH (HQ1.out.trans (hb.mono HQ1.out.size));obtain⟨n0,n1,n2,n3,n4,n5,n6⟩:=HA.out w2 HQ2.out;clear hb))
              go_ret;exact⟨ret_bool rfl,HV.out.trans (HQ2.out.mono HV.out.size)⟩
            |true=>
              go_enter Tryz.func15,Tryz.ntmps15;go_wp2_with fail;obtain⟨v,hv⟩:∃v,w.alloc (.cells #[.string o,.string x,.slice kp KL kc,.slice wp WL wc,.slice pp PL pc,.slice ap AL ac,.slice rp RL rc] 44)=v:=⟨_,rfl⟩;have HV:=yH (show Below w.heap.size w v by rw[←hv];exact HBX.out _);have HA:=yH (show ∀W,Below v.heap.size v W→_ from by rw[←hv];exact HA.out);rw[hv];clear hv;refine(HH.out.rd _ HV.out).mono ?_;rintro e w1 ⟨rfl,hb⟩;have HQ1:=yH hb;obtain⟨n0,n1,n2,n3,n4,n5,n6⟩:=HA.out w1 HQ1.out;clear hb
              go_wp2_with (first
                |(go_at_call 29;refine(HH.out.nm _ (HV.out.trans (HQ1.out.mono HV.out.size))).mono ?_;rintro e w2 ⟨rfl,hb⟩;have HQ2:=yH (HQ1.out.trans (hb.mono HQ1.out.size));obtain⟨n0,n1,n2,n3,n4,n5,n6⟩:=HA.out w2 HQ2.out;clear hb)
                |(go_at_call 33;refine(HH.out.rs _).mono ?_;rintro e w5 ⟨rfl,rfl⟩))
              go_ret;exact⟨ret_bool rfl,HV.out.trans (HQ2.out.mono HV.out.size)⟩
set_option maxHeartbeats 16000000 in
set_option maxRecDepth 100000 in
theorem rone_other {w:World} {o x:ByteArray} {kp wp pp ap rp:Option Addr} {KL WL PL AL RL kc wc pc ac rc:Nat} {RD CM N RS WA PT EA EP EN EW:Bool} (ho:opsL.contains o.toList=false) (h:OneC w o x kp wp pp ap rp KL WL PL AL RL kc wc pc ac rc RD CM N RS WA PT)
    (hA:decide ((0:Int)<(AL:Int))= !EA) (hP:decide ((0:Int)<(PL:Int))= !EP) (hW:decide ((0:Int)<(WL:Int))= !EW) (hN:x.toList.isEmpty=EN):
    Calls Tryz.prog 15 #[.agg #[.string o,.string x,.slice kp KL kc,.slice wp WL wc,.slice pp PL pc,.slice ap AL ac,.slice rp RL rc]] w fun e w'=>e= .returned (.bool false)∧Below w.heap.size w w':=by
  obtain⟨q0,q1,q2,q3,q4,q5,q6,q7,q8,q9,q10,q11,q12,q13⟩:=ops_none ho;have HH:=yH h;have HA:=yH (node_all w o x (.slice kp KL kc) (.slice wp WL wc) (.slice pp PL pc) (.slice ap AL ac) (.slice rp RL rc) 44);have HBX:=yH (fun o=>below_one w o);clear h ho
  cases RD with
  |false=>
    go_enter Tryz.func15,Tryz.ntmps15;go_wp2_with fail;obtain⟨v,hv⟩:∃v,w.alloc (.cells #[.string o,.string x,.slice kp KL kc,.slice wp WL wc,.slice pp PL pc,.slice ap AL ac,.slice rp RL rc] 44)=v:=⟨_,rfl⟩;have HV:=yH (show Below w.heap.size w v by rw[←hv];exact HBX.out _);have HA:=yH (show ∀W,Below v.heap.size v W→_ from by rw[←hv];exact HA.out);rw[hv];clear hv;refine(HH.out.rd _ HV.out).mono ?_;rintro e w1 ⟨rfl,hb⟩;have HQ1:=yH hb;obtain⟨n0,n1,n2,n3,n4,n5,n6⟩:=HA.out w1 HQ1.out;clear hb;go_wp2_with fail;go_ret;exact rB HV HQ1
  |true=>
    cases EA with
    |false=>
      replace hA:(0:Int)<(AL:Int):=of_decide_eq_true hA;go_enter Tryz.func15,Tryz.ntmps15;go_wp2_with fail;obtain⟨v,hv⟩:∃v,w.alloc (.cells #[.string o,.string x,.slice kp KL kc,.slice wp WL wc,.slice pp PL pc,.slice ap AL ac,.slice rp RL rc] 44)=v:=⟨_,rfl⟩;have HV:=yH (show Below w.heap.size w v by rw[←hv];exact HBX.out _);have HA:=yH (show ∀W,Below v.heap.size v W→_ from by rw[←hv];exact HA.out);rw[hv];clear hv;refine(HH.out.rd _ HV.out).mono ?_;rintro e w1 ⟨rfl,hb⟩;have HQ1:=yH hb;obtain⟨n0,n1,n2,n3,n4,n5,n6⟩:=HA.out w1 HQ1.out;clear hb;go_wp2_with fail;go_ret;exact rB HV HQ1
    |true=>
      replace hA:¬(0:Int)<(AL:Int):=of_decide_eq_false hA
      cases EP with
      |false=>
        replace hP:(0:Int)<(PL:Int):=of_decide_eq_true hP;go_enter Tryz.func15,Tryz.ntmps15;go_wp2_with fail;obtain⟨v,hv⟩:∃v,w.alloc (.cells #[.string o,.string x,.slice kp KL kc,.slice wp WL wc,.slice pp PL pc,.slice ap AL ac,.slice rp RL rc] 44)=v:=⟨_,rfl⟩;have HV:=yH (show Below w.heap.size w v by rw[←hv];exact HBX.out _);have HA:=yH (show ∀W,Below v.heap.size v W→_ from by rw[←hv];exact HA.out);rw[hv];clear hv;refine(HH.out.rd _ HV.out).mono ?_;rintro e w1 ⟨rfl,hb⟩;have HQ1:=yH hb;obtain⟨n0,n1,n2,n3,n4,n5,n6⟩:=HA.out w1 HQ1.out;clear hb;go_wp2_with fail;go_ret;exact rB HV HQ1
      |true=>
        replace hP:¬(0:Int)<(PL:Int):=of_decide_eq_false hP
        cases EN with
        |false=>
          go_enter Tryz.func15,Tryz.ntmps15;go_wp2_with fail;obtain⟨v,hv⟩:∃v,w.alloc (.cells #[.string o,.string x,.slice kp KL kc,.slice wp WL wc,.slice pp PL pc,.slice ap AL ac,.slice rp RL rc] 44)=v:=⟨_,rfl⟩;have HV:=yH (show Below w.heap.size w v by rw[←hv];exact HBX.out _);have HA:=yH (show ∀W,Below v.heap.size v W→_ from by rw[←hv];exact HA.out);rw[hv];clear hv;refine(HH.out.rd _ HV.out).mono ?_;rintro e w1 ⟨rfl,hb⟩;have HQ1:=yH hb;obtain⟨n0,n1,n2,n3,n4,n5,n6⟩:=HA.out w1 HQ1.out;clear hb;go_wp2_with fail;go_ret;exact rB HV HQ1
        |true=>
          cases EW with
          |false=>
            replace hW:(0:Int)<(WL:Int):=of_decide_eq_true hW;go_enter Tryz.func15,Tryz.ntmps15;go_wp2_with fail;obtain⟨v,hv⟩:∃v,w.alloc (.cells #[.string o,.string x,.slice kp KL kc,.slice wp WL wc,.slice pp PL pc,.slice ap AL ac,.slice rp RL rc] 44)=v:=⟨_,rfl⟩;have HV:=yH (show Below w.heap.size w v by rw[←hv];exact HBX.out _);have HA:=yH (show ∀W,Below v.heap.size v W→_ from by rw[←hv];exact HA.out);rw[hv];clear hv;refine(HH.out.rd _ HV.out).mono ?_;rintro e w1 ⟨rfl,hb⟩;have HQ1:=yH hb;obtain⟨n0,n1,n2,n3,n4,n5,n6⟩:=HA.out w1 HQ1.out;clear hb;go_wp2_with fail;go_ret;exact rB HV HQ1
          |true=>
            replace hW:¬(0:Int)<(WL:Int):=of_decide_eq_false hW;go_enter Tryz.func15,Tryz.ntmps15;go_wp2_with fail;obtain⟨v,hv⟩:∃v,w.alloc (.cells #[.string o,.string x,.slice kp KL kc,.slice wp WL wc,.slice pp PL pc,.slice ap AL ac,.slice rp RL rc] 44)=v:=⟨_,rfl⟩;have HV:=yH (show Below w.heap.size w v by rw[←hv];exact HBX.out _);have HA:=yH (show ∀W,Below v.heap.size v W→_ from by rw[←hv];exact HA.out);rw[hv];clear hv;refine(HH.out.rd _ HV.out).mono ?_;rintro e w1 ⟨rfl,hb⟩;have HQ1:=yH hb;obtain⟨n0,n1,n2,n3,n4,n5,n6⟩:=HA.out w1 HQ1.out;clear hb;go_wp2_with fail;go_ret;exact rB HV HQ1
set_option maxHeartbeats 16000000 in
set_option maxRecDepth 100000 in
theorem rone_case {w:World} {o x:ByteArray} {kp wp pp ap rp:Option Addr} {KL WL PL AL RL kc wc pc ac rc:Nat} {RD CM N RS WA PT EA EP EN EW:Bool} (ho:o.toList= [99,97,115,101]) (h:OneC w o x kp wp pp ap rp KL WL PL AL RL kc wc pc ac rc RD CM N RS WA PT)
    (hA:decide ((0:Int)<(AL:Int))= !EA) (_hP:decide ((0:Int)<(PL:Int))= !EP) (_hW:decide ((0:Int)<(WL:Int))= !EW) (hN:x.toList.isEmpty=EN):
    Calls Tryz.prog 15 #[.agg #[.string o,.string x,.slice kp KL kc,.slice wp WL wc,.slice pp PL pc,.slice ap AL ac,.slice rp RL rc]] w fun e w'=>e= .returned (.bool (RD&&(EA&&(EN&&(((WL:Int)==1)&&(WA&&PT))))))∧Below w.heap.size w w':=by
  have q0:(o.toList== [99,109,100])=false:=(by rw[ho];decide);have q1:(o.toList== [115,101,113])=false:=(by rw[ho];decide);have q2:(o.toList== [97,110,100])=false:=(by rw[ho];decide);have q3:(o.toList== [111,114])=false:=(by rw[ho];decide);have q4:(o.toList== [110,111,116])=false:=(by rw[ho];decide);have q5:(o.toList== [112,105,112,101])=false:=(by rw[ho];decide);have q6:(o.toList== [105,102])=false:=(by rw[ho];decide);have q7:(o.toList== [119,104,105,108,101])=false:=(by rw[ho];decide);have q8:(o.toList== [117,110,116,105,108])=false:=(by rw[ho];decide);have q9:(o.toList== [102,111,114])=false:=(by rw[ho];decide);have q10:(o.toList== [99,97,115,101])=true:=(by rw[ho];decide);have q11:(o.toList== [102,117,110])=false:=(by rw[ho];decide);have q12:(o.toList== [103,114,111,117,112])=false:=(by rw[ho];decide);have q13:(o.toList== [115,117,98])=false:=(by rw[ho];decide);have HH:=yH h;have HA:=yH (node_all w o x (.slice kp KL kc) (.slice wp WL wc) (.slice pp PL pc) (.slice ap AL ac) (.slice rp RL rc) 44);have HBX:=yH (fun o=>below_one w o);clear h ho
  cases RD with
  |false=>
    go_enter Tryz.func15,Tryz.ntmps15;go_wp2_with fail;obtain⟨v,hv⟩:∃v,w.alloc (.cells #[.string o,.string x,.slice kp KL kc,.slice wp WL wc,.slice pp PL pc,.slice ap AL ac,.slice rp RL rc] 44)=v:=⟨_,rfl⟩;have HV:=yH (show Below w.heap.size w v by rw[←hv];exact HBX.out _);have HA:=yH (show ∀W,Below v.heap.size v W→_ from by rw[←hv];exact HA.out);rw[hv];clear hv;refine(HH.out.rd _ HV.out).mono ?_;rintro e w1 ⟨rfl,hb⟩;have HQ1:=yH hb;obtain⟨n0,n1,n2,n3,n4,n5,n6⟩:=HA.out w1 HQ1.out;clear hb;go_wp2_with fail;go_ret;exact rB HV HQ1
  |true=>
    cases EA with
    |false=>
      replace hA:(0:Int)<(AL:Int):=of_decide_eq_true hA;go_enter Tryz.func15,Tryz.ntmps15;go_wp2_with fail;obtain⟨v,hv⟩:∃v,w.alloc (.cells #[.string o,.string x,.slice kp KL kc,.slice wp WL wc,.slice pp PL pc,.slice ap AL ac,.slice rp RL rc] 44)=v:=⟨_,rfl⟩;have HV:=yH (show Below w.heap.size w v by rw[←hv];exact HBX.out _);have HA:=yH (show ∀W,Below v.heap.size v W→_ from by rw[←hv];exact HA.out);rw[hv];clear hv;refine(HH.out.rd _ HV.out).mono ?_;rintro e w1 ⟨rfl,hb⟩;have HQ1:=yH hb;obtain⟨n0,n1,n2,n3,n4,n5,n6⟩:=HA.out w1 HQ1.out;clear hb;go_wp2_with fail;go_ret;exact rB HV HQ1
    |true=>
      replace hA:¬(0:Int)<(AL:Int):=of_decide_eq_false hA
      cases EN with
      |false=>
        go_enter Tryz.func15,Tryz.ntmps15;go_wp2_with fail;obtain⟨v,hv⟩:∃v,w.alloc (.cells #[.string o,.string x,.slice kp KL kc,.slice wp WL wc,.slice pp PL pc,.slice ap AL ac,.slice rp RL rc] 44)=v:=⟨_,rfl⟩;have HV:=yH (show Below w.heap.size w v by rw[←hv];exact HBX.out _);have HA:=yH (show ∀W,Below v.heap.size v W→_ from by rw[←hv];exact HA.out);rw[hv];clear hv;refine(HH.out.rd _ HV.out).mono ?_;rintro e w1 ⟨rfl,hb⟩;have HQ1:=yH hb;obtain⟨n0,n1,n2,n3,n4,n5,n6⟩:=HA.out w1 HQ1.out;clear hb;go_wp2_with fail;go_ret;exact rB HV HQ1
      |true=>
        by_cases hk:WL=1
        · obtain⟨bb,oo,u,rfl,hc,hw⟩:=HH.out.w0 hk
          have HW0:=yH hc;have HWC:=yH hw;have hK:((WL:Int)==1)=true:=(by rw[hk];rfl);have hK0:(0:Int)<(WL:Int):=(by omega);rw[hK];clear hc hw hk
          cases WA with
          |false=>
            have HZ:=yH (show AL=0 by omega);go_enter Tryz.func15,Tryz.ntmps15;go_wp2_with fail;obtain⟨v,hv⟩:∃v,w.alloc (.cells #[.string o,.string x,.slice kp KL kc,.slice (some ⟨bb,oo,none⟩) WL wc,.slice pp PL pc,.slice ap AL ac,.slice rp RL rc] 44)=v:=⟨_,rfl⟩;have HV:=yH (show Below w.heap.size w v by rw[←hv];exact HBX.out _);have HA:=yH (show ∀W,Below v.heap.size v W→_ from by rw[←hv];exact HA.out);rw[hv];clear hv;refine(HH.out.rd _ HV.out).mono ?_;rintro e w1 ⟨rfl,hb⟩;have HQ1:=yH hb;obtain⟨n0,n1,n2,n3,n4,n5,n6⟩:=HA.out w1 HQ1.out;clear hb;have d0:=HW0.out w1 (HV.out.trans (HQ1.out.mono HV.out.size));go_wp2_with fail;obtain rfl:AL=0:=HZ.out;refine(HWC.out _ (HV.out.trans (HQ1.out.mono HV.out.size))).mono ?_;rintro e w2 ⟨rfl,hb⟩;have HQ2:=yH (HQ1.out.trans (hb.mono HQ1.out.size));obtain⟨n0,n1,n2,n3,n4,n5,n6⟩:=HA.out w2 HQ2.out;clear hb;go_wp2_with fail;go_ret;exact⟨ret_bool rfl,HV.out.trans (HQ2.out.mono HV.out.size)⟩
          |true=>
            have HZ:=yH (show AL=0 by omega);go_enter Tryz.func15,Tryz.ntmps15;go_wp2_with fail;obtain⟨v,hv⟩:∃v,w.alloc (.cells #[.string o,.string x,.slice kp KL kc,.slice (some ⟨bb,oo,none⟩) WL wc,.slice pp PL pc,.slice ap AL ac,.slice rp RL rc] 44)=v:=⟨_,rfl⟩;have HV:=yH (show Below w.heap.size w v by rw[←hv];exact HBX.out _);have HA:=yH (show ∀W,Below v.heap.size v W→_ from by rw[←hv];exact HA.out);rw[hv];clear hv;refine(HH.out.rd _ HV.out).mono ?_;rintro e w1 ⟨rfl,hb⟩;have HQ1:=yH hb;obtain⟨n0,n1,n2,n3,n4,n5,n6⟩:=HA.out w1 HQ1.out;clear hb;have d0:=HW0.out w1 (HV.out.trans (HQ1.out.mono HV.out.size));go_wp2_with fail;obtain rfl:AL=0:=HZ.out;refine(HWC.out _ (HV.out.trans (HQ1.out.mono HV.out.size))).mono ?_;rintro e w2 ⟨rfl,hb⟩;have HQ2:=yH (HQ1.out.trans (hb.mono HQ1.out.size));obtain⟨n0,n1,n2,n3,n4,n5,n6⟩:=HA.out w2 HQ2.out;clear hb;go_wp2_with fail;refine(HH.out.pt _ (HV.out.trans (HQ2.out.mono HV.out.size))).mono ?_;rintro e w3 ⟨rfl,hb⟩;have HQ3:=yH (HQ2.out.trans (hb.mono HQ2.out.size));obtain⟨n0,n1,n2,n3,n4,n5,n6⟩:=HA.out w3 HQ3.out;clear hb;go_wp2_with fail;go_ret;exact⟨ret_bool rfl,HV.out.trans (HQ3.out.mono HV.out.size)⟩
        · have hK:((WL:Int)==1)=false:=int_ne (by omega)
          rw[hK];clear hk;go_enter Tryz.func15,Tryz.ntmps15;go_wp2_with fail;obtain⟨v,hv⟩:∃v,w.alloc (.cells #[.string o,.string x,.slice kp KL kc,.slice wp WL wc,.slice pp PL pc,.slice ap AL ac,.slice rp RL rc] 44)=v:=⟨_,rfl⟩;have HV:=yH (show Below w.heap.size w v by rw[←hv];exact HBX.out _);have HA:=yH (show ∀W,Below v.heap.size v W→_ from by rw[←hv];exact HA.out);rw[hv];clear hv;refine(HH.out.rd _ HV.out).mono ?_;rintro e w1 ⟨rfl,hb⟩;have HQ1:=yH hb;obtain⟨n0,n1,n2,n3,n4,n5,n6⟩:=HA.out w1 HQ1.out;clear hb;go_wp2_with fail;go_ret;exact rB HV HQ1
end Go.Proofs.YtakceggnadagmaaGreatDoor
namespace Go.Proofs.YtakceggnadagmaaGreatDoor.TreeMath
open Go Go.Lib GlyphMath LexMath
def oneN (n:Nd):Bool:=fitsT n&&spellsT n
def rkidsT (walk:Nat→Option Nat) (ns:List Nd) (n:Nd):Nat→List Int→Nat→Option Nat
  |_,[],next=>some next
  |i,k::ks,next=>if k=(next:Int)then match ns[next]? with
      |none=>none
      |some kd=>if takesT n i kd then match walk next with
        |none=>none
        |some m=>rkidsT walk ns n (i+1) ks m
        else none
    else none
def rwalkT (ns:List Nd):Nat→Nat→Option Nat
  |0,_=>none
  |f+1,a=>match ns[a]? with
    |none=>none
    |some n=>rkidsT (rwalkT ns f) ns n 0 n.kids (a+1)
def oneAt (ns:List Nd) (j:Nat):Prop:=∃n,ns[j]? =some n∧oneN n=true
theorem rkids_le {walk:Nat→Option Nat} (hw:∀a m,walk a=some m→a<m) {ns:List Nd} {n:Nd} :∀(ks:List Int) (i next m:Nat),rkidsT walk ns n i ks next=some m→next≤m
  | [],i,next,m,h=>by
    rw[rkidsT]at h;have:=Option.some.inj h;omega
  |k::ks,i,next,m,h=>by
    rw[rkidsT]at h
    split at h
    · split at h
      · cases h
      · split at h
        · split at h
          · cases h
          · rename_i m' hm
            have h1:=hw _ _ hm;have h2:=rkids_le hw ks _ _ _ h;omega
        · cases h
    · cases h
theorem rwalk_lt {ns:List Nd} :∀(f a m:Nat),rwalkT ns f a=some m→a<m
  |0,_,_,h=>by cases h
  |f+1,a,m,h=>by
    rw[rwalkT]at h
    split at h
    · cases h
    · have:=rkids_le (fun a m h=>rwalk_lt f a m h) _ _ _ _ h
      omega
theorem kids_le {walk:Int→Nat→Option Nat} (hw:∀k a m,walk k a=some m→a<m) {ns:List Nd} {n:Nd} :∀(ks:List Int) (i next m:Nat),kidsT walk ns n i ks next=some m→next≤m
  | [],i,next,m,h=>by
    rw[kidsT]at h;have:=Option.some.inj h;omega
  |k::ks,i,next,m,h=>by
    rw[kidsT]at h
    split at h
    · cases h
    · rename_i m' hm
      have h1:=hw _ _ _ hm
      split at h
      · cases h
      · split at h
        · have h2:=kids_le hw ks _ _ _ h
          omega
        · cases h
theorem walk_at {ns:List Nd} :∀(f:Nat) (k:Int) (next m:Nat),walkT ns f k next=some m→next<m∧k=(next:Int)∧next<ns.length
  |0,_,_,_,h=>by cases h
  |f+1,k,next,m,h=>by
    rw[walkT]at h
    split at h
    · rename_i hk
      split at h
      · cases h
      · rename_i n hn
        split at h
        · have:=kids_le (fun k a m h=>(walk_at f k a m h).1) _ _ _ _ h
          exact⟨by omega,hk,(List.getElem?_eq_some_iff.1 hn).1⟩
        · cases h
    · cases h
theorem kids_same {ns:List Nd} {f:Nat} (hW:∀next m:Nat,walkT ns f (next:Int) next=some m↔(rwalkT ns f next=some m∧∀j,next≤j→j<m→oneAt ns j)) (n:Nd):
    ∀(ks:List Int) (i next m:Nat),kidsT (walkT ns f) ns n i ks next=some m↔(rkidsT (rwalkT ns f) ns n i ks next=some m∧∀j,next≤j→j<m→oneAt ns j)
  | [],i,next,m=>by
    rw[kidsT,rkidsT];constructor
    · intro h
      have:=Option.some.inj h;exact⟨h,fun j h1 h2=>by omega⟩
    · exact fun h=>h.1
  |k::ks,i,next,m=>by
    rw[kidsT,rkidsT];constructor
    · intro h
      split at h
      · cases h
      · rename_i m' hm
        obtain⟨h1,rfl,h3⟩:=walk_at _ _ _ _ hm;obtain⟨h4,h5⟩:=(hW next m').1 hm
        split at h
        · cases h
        · rename_i kd hkd
          rw[show ((next:Int)).toNat=next from rfl]at hkd
          split at h
          · rename_i ht
            obtain⟨h6,h7⟩:=(kids_same hW n ks (i+1) m' m).1 h;refine⟨?_,fun j a b=> ?_⟩
            · rw[if_pos rfl,hkd]
              simp only;rw[if_pos ht,h4];exact h6
            · by_cases hj:j<m'
              · exact h5 j a hj
              · exact h7 j (by omega) b
          · cases h
    · rintro⟨h,ho⟩
      split at h
      · rename_i hk
        subst hk
        split at h
        · cases h
        · rename_i kd hkd
          split at h
          · rename_i ht
            split at h
            · cases h
            · rename_i m' hm
              have h1:=rwalk_lt _ _ _ hm;have h2:=rkids_le (fun a m h=>rwalk_lt f a m h) _ _ _ _ h;rw[(hW next m').2 ⟨hm,fun j a b=>ho j a (by omega)⟩];simp only;rw[show ((next:Int)).toNat=next from rfl,hkd];simp only;rw[if_pos ht];exact(kids_same hW n ks (i+1) m' m).2 ⟨h,fun j a b=>ho j (by omega) b⟩
          · cases h
      · cases h
theorem walk_same {ns:List Nd} :∀(f next m:Nat),walkT ns f (next:Int) next=some m↔(rwalkT ns f next=some m∧∀j,next≤j→j<m→oneAt ns j)
  |0,next,m=>by
    constructor
    · intro h;cases h
    · intro h;cases h.1
  |f+1,next,m=>by
    rw[walkT,rwalkT,if_pos rfl]
    cases hn:ns[next]? with
    |none=>simp
    |some n=>
      simp only;have hk:=kids_same (ns:=ns) (walk_same f) n n.kids 0 (next+1) m;constructor
      · intro h
        split at h
        · rename_i ho
          obtain⟨h1,h2⟩:=hk.1 h;refine⟨h1,fun j a b=> ?_⟩
          by_cases hj:j=next
          · subst hj;exact⟨n,hn,ho⟩
          · exact h2 j (by omega) b
        · cases h
      · rintro⟨h,ho⟩
        have h2:=rkids_le (fun a m h=>rwalk_lt f a m h) _ _ _ _ h;obtain⟨n',hn',h1⟩:=ho next (Nat.le_refl _) (by omega);rw[hn]at hn';obtain rfl:=Option.some.inj hn';rw[if_pos (show(fitsT n&&spellsT n)=true from h1)];exact hk.2 ⟨h,fun j a b=>ho j (by omega) b⟩
theorem is_ref (ns:List Nd) (root:Int):isT ns root=(decide (1≤ns.length)&&(decide (ns.length≤200)&&((root==0)&&(ns.all oneN&&(rwalkT ns ns.length 0==some ns.length))))):=by
  rw[Bool.eq_iff_iff];unfold isT;simp only[Bool.and_eq_true,decide_eq_true_eq,beq_iff_eq];constructor
  · rintro⟨h1,h2⟩
    obtain⟨h3,h4,h5⟩:=walk_at _ _ _ _ h2;subst h4;obtain⟨h6,h7⟩:=(walk_same ns.length 0 ns.length).1 h2;refine⟨by omega,h1,rfl,?_,h6⟩;rw[List.all_eq_true];intro n hn;obtain⟨j,hj⟩:=List.mem_iff_getElem?.1 hn;obtain⟨n',hn',ho⟩:=h7 j (by omega) (List.getElem?_eq_some_iff.1 hj).1;rw[hj]at hn';obtain rfl:=Option.some.inj hn';exact ho
  · rintro⟨h0,h1,rfl,h3,h4⟩
    refine⟨h1,(walk_same ns.length 0 ns.length).2 ⟨h4,fun j _ hj=> ?_⟩⟩;have hg:ns[j]? =some ns[j]:=List.getElem?_eq_getElem hj;exact⟨ns[j],hg,List.all_eq_true.1 h3 _ (List.getElem_mem hj)⟩
end Go.Proofs.YtakceggnadagmaaGreatDoor.TreeMath
namespace Go.Proofs.YtakceggnadagmaaGreatDoor
open Go Go.Lib GlyphMath LexMath TreeMath
theorem has_00 {α:Type} (l:List α):hasT 0 0 (l.length:Int)=l.isEmpty:=by
  cases l with
  |nil=>rfl
  |cons a r=>show(decide _&&decide _)=false;rw[decide_eq_false (show ¬((a::r).length:Int)≤0 by rw[List.length_cons];omega),Bool.and_false]
theorem has_max (n:Nat) (h:n≤4611686018427387904):hasT 0 9223372036854775807 (n:Int)=true:=by
  unfold hasT;rw[decide_eq_true (by omega),decide_eq_true (by omega)];rfl
theorem has_two (n:Nat) (h:n≤4611686018427387904):hasT 2 9223372036854775807 (n:Int)=decide ((2:Int)≤(n:Int)):=by
  unfold hasT;rw[decide_eq_true (show(n:Int)≤9223372036854775807 by omega),Bool.and_true]
theorem has_same (c:Int) (n:Nat):hasT c c (n:Int)=((n:Int)==c):=by
  unfold hasT
  by_cases h:(n:Int)=c
  · rw[h];simp
  · rw[int_ne h]
    by_cases h1:c≤(n:Int)
    · rw[decide_eq_false (show ¬(n:Int)≤c by omega),Bool.and_false]
    · rw[decide_eq_false h1,Bool.false_and]
theorem has_23 (n:Nat):hasT 2 3 (n:Int)=(((n:Int)==2)||((n:Int)==3)):=by
  unfold hasT
  by_cases h:(n:Int)=2
  · rw[h];rfl
  · by_cases h3:(n:Int)=3
    · rw[h3];rfl
    · rw[int_ne h,int_ne h3]
      by_cases h1:(2:Int)≤(n:Int)
      · rw[decide_eq_false (show ¬(n:Int)≤3 by omega),Bool.and_false];rfl
      · rw[decide_eq_false h1,Bool.false_and];rfl
theorem len_none {α:Type} (l:List α):(l.length==0)=l.isEmpty:=by cases l<;>rfl
theorem all_none {α:Type} (f:α→Bool) (l:List α) (h:l.isEmpty=true):l.all f=true:=by rw[List.isEmpty_iff.1 h];rfl
theorem name_empty (l:List UInt8) (h:l.isEmpty=true):nameT l=false:=by rw[List.isEmpty_iff.1 h];rfl
theorem one_cmd (n:Nd) (h:n.op= [99,109,100]) (_hk:n.kids.length≤4611686018427387904) (_hw:n.words.length≤4611686018427387904):oneN n=(rredirsT n&&(n.pats.isEmpty&&(n.name.isEmpty&&(((n.kids.length:Int)==0)&&rcmdT n)))):=by
  have hf:fitsT n=shapeT ⟨[99,109,100],0,0,0,9223372036854775807,false,false,true,true⟩ n:=(by unfold fitsT;rw[h];rfl);have hr:rredirsT n=n.redirs.all redirT:=(by unfold rredirsT;rw[h];rfl);have hb:beginT n=commandT n:=(by unfold beginT;rw[h];rfl);unfold oneN spellsT;rw[hf,hr,hb];unfold shapeT;simp only[];rw[has_same,has_max _ _hw];simp only[Bool.false_eq_true,if_false];rw[len_none];unfold rcmdT;have i1:=all_none bareW n.words;have i2:=all_none patT n.pats;have i3:=all_none assignT n.assigns;have i4:=all_none redirT n.redirs;have i5:=name_empty n.name
  generalize n.words.all bareW=W at*
  generalize n.pats.all patT=P at*
  generalize n.assigns.all assignT=A at*
  generalize n.redirs.all redirT=D at*
  generalize nameT n.name=N at*
  generalize n.words.isEmpty=EW at*
  generalize n.pats.isEmpty=EP at*
  generalize n.assigns.isEmpty=EA at*
  generalize n.redirs.isEmpty=ER at*
  generalize n.name.isEmpty=EN at*
  generalize commandT n=CM at*
  generalize ((n.kids.length:Int)==0)=K0
  clear hf hr hb h _hk _hw
  revert i1 i2 i3 i4 i5
  cases EN<;>cases EA<;>cases EW<;>cases EP<;>cases ER<;>cases N<;>cases K0<;>cases CM<;>cases W<;>cases A<;>cases D<;>simp<;>intros<;>simp_all
theorem one_seq (n:Nd) (h:n.op= [115,101,113]) (_hk:n.kids.length≤4611686018427387904) (_hw:n.words.length≤4611686018427387904):oneN n=(rredirsT n&&(n.assigns.isEmpty&&(n.pats.isEmpty&&(n.name.isEmpty&&(n.words.isEmpty&&decide ((2:Int)≤(n.kids.length:Int))))))):=by
  have hf:fitsT n=shapeT ⟨[115,101,113],2,9223372036854775807,0,0,false,false,false,false⟩ n:=(by unfold fitsT;rw[h];rfl);have hr:rredirsT n=n.redirs.isEmpty:=(by unfold rredirsT;rw[h];rfl);have hb:beginT n=true:=(by unfold beginT;rw[h];rfl);unfold oneN spellsT;rw[hf,hr,hb];unfold shapeT;simp only[];rw[has_two _ _hk,has_00 n.words];simp only[Bool.false_eq_true,if_false];rw[len_none];have i1:=all_none bareW n.words;have i2:=all_none patT n.pats;have i3:=all_none assignT n.assigns;have i4:=all_none redirT n.redirs;have i5:=name_empty n.name
  generalize n.words.all bareW=W at*
  generalize n.pats.all patT=P at*
  generalize n.assigns.all assignT=A at*
  generalize n.redirs.all redirT=D at*
  generalize nameT n.name=N at*
  generalize n.words.isEmpty=EW at*
  generalize n.pats.isEmpty=EP at*
  generalize n.assigns.isEmpty=EA at*
  generalize n.redirs.isEmpty=ER at*
  generalize n.name.isEmpty=EN at*
  generalize decide ((2:Int)≤(n.kids.length:Int))=K
  clear hf hr hb h _hk _hw
  revert i1 i2 i3 i4 i5
  cases EN<;>cases EA<;>cases EW<;>cases EP<;>cases ER<;>cases N<;>cases K<;>simp<;>intros<;>simp_all
theorem one_and (n:Nd) (h:n.op= [97,110,100]) (_hk:n.kids.length≤4611686018427387904) (_hw:n.words.length≤4611686018427387904):oneN n=(rredirsT n&&(n.assigns.isEmpty&&(n.pats.isEmpty&&(n.name.isEmpty&&(n.words.isEmpty&&((n.kids.length:Int)==2)))))):=by
  have hf:fitsT n=shapeT ⟨[97,110,100],2,2,0,0,false,false,false,false⟩ n:=(by unfold fitsT;rw[h];rfl);have hr:rredirsT n=n.redirs.isEmpty:=(by unfold rredirsT;rw[h];rfl);have hb:beginT n=true:=(by unfold beginT;rw[h];rfl);unfold oneN spellsT;rw[hf,hr,hb];unfold shapeT;simp only[];rw[has_same,has_00 n.words];simp only[Bool.false_eq_true,if_false];rw[len_none];have i1:=all_none bareW n.words;have i2:=all_none patT n.pats;have i3:=all_none assignT n.assigns;have i4:=all_none redirT n.redirs;have i5:=name_empty n.name
  generalize n.words.all bareW=W at*
  generalize n.pats.all patT=P at*
  generalize n.assigns.all assignT=A at*
  generalize n.redirs.all redirT=D at*
  generalize nameT n.name=N at*
  generalize n.words.isEmpty=EW at*
  generalize n.pats.isEmpty=EP at*
  generalize n.assigns.isEmpty=EA at*
  generalize n.redirs.isEmpty=ER at*
  generalize n.name.isEmpty=EN at*
  generalize ((n.kids.length:Int)==2)=K2
  clear hf hr hb h _hk _hw
  revert i1 i2 i3 i4 i5
  cases EN<;>cases EA<;>cases EW<;>cases EP<;>cases ER<;>cases N<;>cases K2<;>simp<;>intros<;>simp_all
theorem one_or (n:Nd) (h:n.op= [111,114]) (_hk:n.kids.length≤4611686018427387904) (_hw:n.words.length≤4611686018427387904):oneN n=(rredirsT n&&(n.assigns.isEmpty&&(n.pats.isEmpty&&(n.name.isEmpty&&(n.words.isEmpty&&((n.kids.length:Int)==2)))))):=by
  have hf:fitsT n=shapeT ⟨[111,114],2,2,0,0,false,false,false,false⟩ n:=(by unfold fitsT;rw[h];rfl);have hr:rredirsT n=n.redirs.isEmpty:=(by unfold rredirsT;rw[h];rfl);have hb:beginT n=true:=(by unfold beginT;rw[h];rfl);unfold oneN spellsT;rw[hf,hr,hb];unfold shapeT;simp only[];rw[has_same,has_00 n.words];simp only[Bool.false_eq_true,if_false];rw[len_none];have i1:=all_none bareW n.words;have i2:=all_none patT n.pats;have i3:=all_none assignT n.assigns;have i4:=all_none redirT n.redirs;have i5:=name_empty n.name
  generalize n.words.all bareW=W at*
  generalize n.pats.all patT=P at*
  generalize n.assigns.all assignT=A at*
  generalize n.redirs.all redirT=D at*
  generalize nameT n.name=N at*
  generalize n.words.isEmpty=EW at*
  generalize n.pats.isEmpty=EP at*
  generalize n.assigns.isEmpty=EA at*
  generalize n.redirs.isEmpty=ER at*
  generalize n.name.isEmpty=EN at*
  generalize ((n.kids.length:Int)==2)=K2
  clear hf hr hb h _hk _hw
  revert i1 i2 i3 i4 i5
  cases EN<;>cases EA<;>cases EW<;>cases EP<;>cases ER<;>cases N<;>cases K2<;>simp<;>intros<;>simp_all
theorem oneM_not (n:Nd) (h:n.op= [110,111,116]) (_hk:n.kids.length≤4611686018427387904) (_hw:n.words.length≤4611686018427387904):oneN n=(rredirsT n&&(n.assigns.isEmpty&&(n.pats.isEmpty&&(n.name.isEmpty&&(n.words.isEmpty&&((n.kids.length:Int)==1)))))):=by
  have hf:fitsT n=shapeT ⟨[110,111,116],1,1,0,0,false,false,false,false⟩ n:=(by unfold fitsT;rw[h];rfl);have hr:rredirsT n=n.redirs.isEmpty:=(by unfold rredirsT;rw[h];rfl);have hb:beginT n=true:=(by unfold beginT;rw[h];rfl);unfold oneN spellsT;rw[hf,hr,hb];unfold shapeT;simp only[];rw[has_same,has_00 n.words];simp only[Bool.false_eq_true,if_false];rw[len_none];have i1:=all_none bareW n.words;have i2:=all_none patT n.pats;have i3:=all_none assignT n.assigns;have i4:=all_none redirT n.redirs;have i5:=name_empty n.name
  generalize n.words.all bareW=W at*
  generalize n.pats.all patT=P at*
  generalize n.assigns.all assignT=A at*
  generalize n.redirs.all redirT=D at*
  generalize nameT n.name=N at*
  generalize n.words.isEmpty=EW at*
  generalize n.pats.isEmpty=EP at*
  generalize n.assigns.isEmpty=EA at*
  generalize n.redirs.isEmpty=ER at*
  generalize n.name.isEmpty=EN at*
  generalize ((n.kids.length:Int)==1)=K1
  clear hf hr hb h _hk _hw
  revert i1 i2 i3 i4 i5
  cases EN<;>cases EA<;>cases EW<;>cases EP<;>cases ER<;>cases N<;>cases K1<;>simp<;>intros<;>simp_all
theorem one_pipe (n:Nd) (h:n.op= [112,105,112,101]) (_hk:n.kids.length≤4611686018427387904) (_hw:n.words.length≤4611686018427387904):oneN n=(rredirsT n&&(n.assigns.isEmpty&&(n.pats.isEmpty&&(n.name.isEmpty&&(n.words.isEmpty&&decide ((2:Int)≤(n.kids.length:Int))))))):=by
  have hf:fitsT n=shapeT ⟨[112,105,112,101],2,9223372036854775807,0,0,false,false,false,false⟩ n:=(by unfold fitsT;rw[h];rfl);have hr:rredirsT n=n.redirs.isEmpty:=(by unfold rredirsT;rw[h];rfl);have hb:beginT n=true:=(by unfold beginT;rw[h];rfl);unfold oneN spellsT;rw[hf,hr,hb];unfold shapeT;simp only[];rw[has_two _ _hk,has_00 n.words];simp only[Bool.false_eq_true,if_false];rw[len_none];have i1:=all_none bareW n.words;have i2:=all_none patT n.pats;have i3:=all_none assignT n.assigns;have i4:=all_none redirT n.redirs;have i5:=name_empty n.name
  generalize n.words.all bareW=W at*
  generalize n.pats.all patT=P at*
  generalize n.assigns.all assignT=A at*
  generalize n.redirs.all redirT=D at*
  generalize nameT n.name=N at*
  generalize n.words.isEmpty=EW at*
  generalize n.pats.isEmpty=EP at*
  generalize n.assigns.isEmpty=EA at*
  generalize n.redirs.isEmpty=ER at*
  generalize n.name.isEmpty=EN at*
  generalize decide ((2:Int)≤(n.kids.length:Int))=K
  clear hf hr hb h _hk _hw
  revert i1 i2 i3 i4 i5
  cases EN<;>cases EA<;>cases EW<;>cases EP<;>cases ER<;>cases N<;>cases K<;>simp<;>intros<;>simp_all
theorem one_if (n:Nd) (h:n.op= [105,102]) (_hk:n.kids.length≤4611686018427387904) (_hw:n.words.length≤4611686018427387904):oneN n=(rredirsT n&&(n.assigns.isEmpty&&(n.pats.isEmpty&&(n.name.isEmpty&&(n.words.isEmpty&&(((n.kids.length:Int)==2)||((n.kids.length:Int)==3))))))):=by
  have hf:fitsT n=shapeT ⟨[105,102],2,3,0,0,false,false,false,true⟩ n:=(by unfold fitsT;rw[h];rfl);have hr:rredirsT n=n.redirs.all redirT:=(by unfold rredirsT;rw[h];rfl);have hb:beginT n=true:=(by unfold beginT;rw[h];rfl);unfold oneN spellsT;rw[hf,hr,hb];unfold shapeT;simp only[];rw[has_23,has_00 n.words];simp only[Bool.false_eq_true,if_false];rw[len_none];have i1:=all_none bareW n.words;have i2:=all_none patT n.pats;have i3:=all_none assignT n.assigns;have i4:=all_none redirT n.redirs;have i5:=name_empty n.name
  generalize n.words.all bareW=W at*
  generalize n.pats.all patT=P at*
  generalize n.assigns.all assignT=A at*
  generalize n.redirs.all redirT=D at*
  generalize nameT n.name=N at*
  generalize n.words.isEmpty=EW at*
  generalize n.pats.isEmpty=EP at*
  generalize n.assigns.isEmpty=EA at*
  generalize n.redirs.isEmpty=ER at*
  generalize n.name.isEmpty=EN at*
  generalize ((n.kids.length:Int)==2)=K2
  generalize ((n.kids.length:Int)==3)=K3
  clear hf hr hb h _hk _hw
  revert i1 i2 i3 i4 i5
  cases EN<;>cases EA<;>cases EW<;>cases EP<;>cases ER<;>cases N<;>cases K2<;>cases K3<;>cases D<;>simp<;>intros<;>simp_all
theorem one_while (n:Nd) (h:n.op= [119,104,105,108,101]) (_hk:n.kids.length≤4611686018427387904) (_hw:n.words.length≤4611686018427387904):oneN n=(rredirsT n&&(n.assigns.isEmpty&&(n.pats.isEmpty&&(n.name.isEmpty&&(n.words.isEmpty&&((n.kids.length:Int)==2)))))):=by
  have hf:fitsT n=shapeT ⟨[119,104,105,108,101],2,2,0,0,false,false,false,true⟩ n:=(by unfold fitsT;rw[h];rfl);have hr:rredirsT n=n.redirs.all redirT:=(by unfold rredirsT;rw[h];rfl);have hb:beginT n=true:=(by unfold beginT;rw[h];rfl);unfold oneN spellsT;rw[hf,hr,hb];unfold shapeT;simp only[];rw[has_same,has_00 n.words];simp only[Bool.false_eq_true,if_false];rw[len_none];have i1:=all_none bareW n.words;have i2:=all_none patT n.pats;have i3:=all_none assignT n.assigns;have i4:=all_none redirT n.redirs;have i5:=name_empty n.name
  generalize n.words.all bareW=W at*
  generalize n.pats.all patT=P at*
  generalize n.assigns.all assignT=A at*
  generalize n.redirs.all redirT=D at*
  generalize nameT n.name=N at*
  generalize n.words.isEmpty=EW at*
  generalize n.pats.isEmpty=EP at*
  generalize n.assigns.isEmpty=EA at*
  generalize n.redirs.isEmpty=ER at*
  generalize n.name.isEmpty=EN at*
  generalize ((n.kids.length:Int)==2)=K2
  clear hf hr hb h _hk _hw
  revert i1 i2 i3 i4 i5
  cases EN<;>cases EA<;>cases EW<;>cases EP<;>cases ER<;>cases N<;>cases K2<;>cases D<;>simp<;>intros<;>simp_all
theorem one_until (n:Nd) (h:n.op= [117,110,116,105,108]) (_hk:n.kids.length≤4611686018427387904) (_hw:n.words.length≤4611686018427387904):oneN n=(rredirsT n&&(n.assigns.isEmpty&&(n.pats.isEmpty&&(n.name.isEmpty&&(n.words.isEmpty&&((n.kids.length:Int)==2)))))):=by
  have hf:fitsT n=shapeT ⟨[117,110,116,105,108],2,2,0,0,false,false,false,true⟩ n:=(by unfold fitsT;rw[h];rfl);have hr:rredirsT n=n.redirs.all redirT:=(by unfold rredirsT;rw[h];rfl);have hb:beginT n=true:=(by unfold beginT;rw[h];rfl);unfold oneN spellsT;rw[hf,hr,hb];unfold shapeT;simp only[];rw[has_same,has_00 n.words];simp only[Bool.false_eq_true,if_false];rw[len_none];have i1:=all_none bareW n.words;have i2:=all_none patT n.pats;have i3:=all_none assignT n.assigns;have i4:=all_none redirT n.redirs;have i5:=name_empty n.name
  generalize n.words.all bareW=W at*
  generalize n.pats.all patT=P at*
  generalize n.assigns.all assignT=A at*
  generalize n.redirs.all redirT=D at*
  generalize nameT n.name=N at*
  generalize n.words.isEmpty=EW at*
  generalize n.pats.isEmpty=EP at*
  generalize n.assigns.isEmpty=EA at*
  generalize n.redirs.isEmpty=ER at*
  generalize n.name.isEmpty=EN at*
  generalize ((n.kids.length:Int)==2)=K2
  clear hf hr hb h _hk _hw
  revert i1 i2 i3 i4 i5
  cases EN<;>cases EA<;>cases EW<;>cases EP<;>cases ER<;>cases N<;>cases K2<;>cases D<;>simp<;>intros<;>simp_all
theorem one_for (n:Nd) (h:n.op= [102,111,114]) (_hk:n.kids.length≤4611686018427387904) (_hw:n.words.length≤4611686018427387904):oneN n=(rredirsT n&&(n.assigns.isEmpty&&(n.pats.isEmpty&&(((n.kids.length:Int)==1)&&(nameT n.name&&n.words.all bareW))))):=by
  have hf:fitsT n=shapeT ⟨[102,111,114],1,1,0,9223372036854775807,true,false,false,true⟩ n:=(by unfold fitsT;rw[h];rfl);have hr:rredirsT n=n.redirs.all redirT:=(by unfold rredirsT;rw[h];rfl);have hb:beginT n=true:=(by unfold beginT;rw[h];rfl);unfold oneN spellsT;rw[hf,hr,hb];unfold shapeT;simp only[];rw[has_same,has_max _ _hw];simp only[Bool.false_eq_true,if_false];rw[len_none];have i1:=all_none bareW n.words;have i2:=all_none patT n.pats;have i3:=all_none assignT n.assigns;have i4:=all_none redirT n.redirs;have i5:=name_empty n.name
  generalize n.words.all bareW=W at*
  generalize n.pats.all patT=P at*
  generalize n.assigns.all assignT=A at*
  generalize n.redirs.all redirT=D at*
  generalize nameT n.name=N at*
  generalize n.words.isEmpty=EW at*
  generalize n.pats.isEmpty=EP at*
  generalize n.assigns.isEmpty=EA at*
  generalize n.redirs.isEmpty=ER at*
  generalize n.name.isEmpty=EN at*
  generalize ((n.kids.length:Int)==1)=K1
  clear hf hr hb h _hk _hw
  revert i1 i2 i3 i4 i5
  cases EN<;>cases EA<;>cases EW<;>cases EP<;>cases ER<;>cases N<;>cases K1<;>cases W<;>cases D<;>simp<;>intros<;>simp_all
theorem one_case (n:Nd) (h:n.op= [99,97,115,101]) (_hk:n.kids.length≤4611686018427387904) (_hw:n.words.length≤4611686018427387904):oneN n=(rredirsT n&&(n.assigns.isEmpty&&(n.name.isEmpty&&(((n.words.length:Int)==1)&&(n.words.all bareW&&rpatsT n))))):=by
  have hf:fitsT n=shapeT ⟨[99,97,115,101],0,9223372036854775807,1,1,false,true,false,true⟩ n:=(by unfold fitsT;rw[h];rfl);have hr:rredirsT n=n.redirs.all redirT:=(by unfold rredirsT;rw[h];rfl);have hb:beginT n=true:=(by unfold beginT;rw[h];rfl);unfold oneN spellsT;rw[hf,hr,hb];unfold shapeT;simp only[];rw[has_max _ _hk,has_same];unfold rpatsT;simp only[if_true];have i1:=all_none bareW n.words;have i2:=all_none patT n.pats;have i3:=all_none assignT n.assigns;have i4:=all_none redirT n.redirs;have i5:=name_empty n.name
  generalize n.words.all bareW=W at*
  generalize n.pats.all patT=P at*
  generalize n.assigns.all assignT=A at*
  generalize n.redirs.all redirT=D at*
  generalize nameT n.name=N at*
  generalize n.words.isEmpty=EW at*
  generalize n.pats.isEmpty=EP at*
  generalize n.assigns.isEmpty=EA at*
  generalize n.redirs.isEmpty=ER at*
  generalize n.name.isEmpty=EN at*
  generalize ((n.words.length:Int)==1)=K
  generalize (n.pats.length==n.kids.length)=K2
  clear hf hr hb h _hk _hw
  revert i1 i2 i3 i4 i5
  cases EN<;>cases EA<;>cases EW<;>cases EP<;>cases ER<;>simp<;>intros<;>simp_all
  all_goals (try (cases K<;>cases K2<;>cases W<;>cases P<;>cases D<;>simp_all))
theorem one_fun (n:Nd) (h:n.op= [102,117,110]) (_hk:n.kids.length≤4611686018427387904) (_hw:n.words.length≤4611686018427387904):oneN n=(rredirsT n&&(n.assigns.isEmpty&&(n.pats.isEmpty&&(n.words.isEmpty&&(((n.kids.length:Int)==1)&&(nameT n.name&& !reservedT n.name)))))):=by
  have hf:fitsT n=shapeT ⟨[102,117,110],1,1,0,0,true,false,false,false⟩ n:=(by unfold fitsT;rw[h];rfl);have hr:rredirsT n=n.redirs.isEmpty:=(by unfold rredirsT;rw[h];rfl);have hb:beginT n= !reservedT n.name:=(by unfold beginT;rw[h];rfl);unfold oneN spellsT;rw[hf,hr,hb];unfold shapeT;simp only[];rw[has_same,has_00 n.words];simp only[Bool.false_eq_true,if_false];rw[len_none];have i1:=all_none bareW n.words;have i2:=all_none patT n.pats;have i3:=all_none assignT n.assigns;have i4:=all_none redirT n.redirs;have i5:=name_empty n.name
  generalize n.words.all bareW=W at*
  generalize n.pats.all patT=P at*
  generalize n.assigns.all assignT=A at*
  generalize n.redirs.all redirT=D at*
  generalize nameT n.name=N at*
  generalize n.words.isEmpty=EW at*
  generalize n.pats.isEmpty=EP at*
  generalize n.assigns.isEmpty=EA at*
  generalize n.redirs.isEmpty=ER at*
  generalize n.name.isEmpty=EN at*
  generalize reservedT n.name=RS at*
  generalize ((n.kids.length:Int)==1)=K1
  clear hf hr hb h _hk _hw
  revert i1 i2 i3 i4 i5
  cases EN<;>cases EA<;>cases EW<;>cases EP<;>cases ER<;>cases N<;>cases K1<;>cases RS<;>simp<;>intros<;>simp_all
theorem one_group (n:Nd) (h:n.op= [103,114,111,117,112]) (_hk:n.kids.length≤4611686018427387904) (_hw:n.words.length≤4611686018427387904):oneN n=(rredirsT n&&(n.assigns.isEmpty&&(n.pats.isEmpty&&(n.name.isEmpty&&(n.words.isEmpty&&((n.kids.length:Int)==1)))))):=by
  have hf:fitsT n=shapeT ⟨[103,114,111,117,112],1,1,0,0,false,false,false,true⟩ n:=(by unfold fitsT;rw[h];rfl);have hr:rredirsT n=n.redirs.all redirT:=(by unfold rredirsT;rw[h];rfl);have hb:beginT n=true:=(by unfold beginT;rw[h];rfl);unfold oneN spellsT;rw[hf,hr,hb];unfold shapeT;simp only[];rw[has_same,has_00 n.words];simp only[Bool.false_eq_true,if_false];rw[len_none];have i1:=all_none bareW n.words;have i2:=all_none patT n.pats;have i3:=all_none assignT n.assigns;have i4:=all_none redirT n.redirs;have i5:=name_empty n.name
  generalize n.words.all bareW=W at*
  generalize n.pats.all patT=P at*
  generalize n.assigns.all assignT=A at*
  generalize n.redirs.all redirT=D at*
  generalize nameT n.name=N at*
  generalize n.words.isEmpty=EW at*
  generalize n.pats.isEmpty=EP at*
  generalize n.assigns.isEmpty=EA at*
  generalize n.redirs.isEmpty=ER at*
  generalize n.name.isEmpty=EN at*
  generalize ((n.kids.length:Int)==1)=K1
  clear hf hr hb h _hk _hw
  revert i1 i2 i3 i4 i5
  cases EN<;>cases EA<;>cases EW<;>cases EP<;>cases ER<;>cases N<;>cases K1<;>cases D<;>simp<;>intros<;>simp_all
theorem one_sub (n:Nd) (h:n.op= [115,117,98]) (_hk:n.kids.length≤4611686018427387904) (_hw:n.words.length≤4611686018427387904):oneN n=(rredirsT n&&(n.assigns.isEmpty&&(n.pats.isEmpty&&(n.name.isEmpty&&(n.words.isEmpty&&((n.kids.length:Int)==1)))))):=by
  have hf:fitsT n=shapeT ⟨[115,117,98],1,1,0,0,false,false,false,true⟩ n:=(by unfold fitsT;rw[h];rfl);have hr:rredirsT n=n.redirs.all redirT:=(by unfold rredirsT;rw[h];rfl);have hb:beginT n=true:=(by unfold beginT;rw[h];rfl);unfold oneN spellsT;rw[hf,hr,hb];unfold shapeT;simp only[];rw[has_same,has_00 n.words];simp only[Bool.false_eq_true,if_false];rw[len_none];have i1:=all_none bareW n.words;have i2:=all_none patT n.pats;have i3:=all_none assignT n.assigns;have i4:=all_none redirT n.redirs;have i5:=name_empty n.name
  generalize n.words.all bareW=W at*
  generalize n.pats.all patT=P at*
  generalize n.assigns.all assignT=A at*
  generalize n.redirs.all redirT=D at*
  generalize nameT n.name=N at*
  generalize n.words.isEmpty=EW at*
  generalize n.pats.isEmpty=EP at*
  generalize n.assigns.isEmpty=EA at*
  generalize n.redirs.isEmpty=ER at*
  generalize n.name.isEmpty=EN at*
  generalize ((n.kids.length:Int)==1)=K1
  clear hf hr hb h _hk _hw
  revert i1 i2 i3 i4 i5
  cases EN<;>cases EA<;>cases EW<;>cases EP<;>cases ER<;>cases N<;>cases K1<;>cases D<;>simp<;>intros<;>simp_all
theorem one_other (n:Nd) (h:opsL.contains n.op=false):oneN n=false:=by
  obtain⟨q0,q1,q2,q3,q4,q5,q6,q7,q8,q9,q10,q11,q12,q13⟩:=ops_none h;have e:∀l k:List UInt8,(l==k)=false→(k==l)=false:=fun l k h=>list_ne fun e=>(by rw[e]at h;simp at h)
  have hf:fitsT n=false:=by
    unfold fitsT shapesL;simp only[List.find?,e _ _ q0,e _ _ q1,e _ _ q2,e _ _ q3,e _ _ q4,e _ _ q5,e _ _ q6,e _ _ q7,e _ _ q8,e _ _ q9,e _ _ q10,e _ _ q11,e _ _ q12,e _ _ q13]
  unfold oneN;rw[hf,Bool.false_and]
end Go.Proofs.YtakceggnadagmaaGreatDoor
