/-
  Proved: what the statements' own one answers of a node (or, not, group, sub, while, until). Conditions: as it says.
-/
import Derived.Test.YtakceggnadagmaaGreatDoorPq23
namespace Go.Proofs.YtakceggnadagmaaGreatDoor
open Go Go.RowKit GlyphMath LexMath TreeMath
set_option maxHeartbeats 16000000 in
set_option maxRecDepth 100000 in
theorem rone_or {w:World} {o x:ByteArray} {kp wp pp ap rp:Option Addr} {KL WL PL AL RL kc wc pc ac rc:Nat} {RD CM N RS WA PT EA EP EN EW:Bool} (ho:o.toList= [111,114]) (h:OneC w o x kp wp pp ap rp KL WL PL AL RL kc wc pc ac rc RD CM N RS WA PT)
    (hA:decide ((0:Int)<(AL:Int))= !EA) (hP:decide ((0:Int)<(PL:Int))= !EP) (hW:decide ((0:Int)<(WL:Int))= !EW) (hN:x.toList.isEmpty=EN):
    Calls Tryz.prog 15 #[.agg #[.string o,.string x,.slice kp KL kc,.slice wp WL wc,.slice pp PL pc,.slice ap AL ac,.slice rp RL rc]] w fun e w'=>e= .returned (.bool (RD&&(EA&&(EP&&(EN&&(EW&&((KL:Int)==2)))))))∧Below w.heap.size w w':=by
  have q0:(o.toList== [99,109,100])=false:=(by rw[ho];decide);have q1:(o.toList== [115,101,113])=false:=(by rw[ho];decide);have q2:(o.toList== [97,110,100])=false:=(by rw[ho];decide);have q3:(o.toList== [111,114])=true:=(by rw[ho];decide);have q4:(o.toList== [110,111,116])=false:=(by rw[ho];decide);have q5:(o.toList== [112,105,112,101])=false:=(by rw[ho];decide);have q6:(o.toList== [105,102])=false:=(by rw[ho];decide);have q7:(o.toList== [119,104,105,108,101])=false:=(by rw[ho];decide);have q8:(o.toList== [117,110,116,105,108])=false:=(by rw[ho];decide);have q9:(o.toList== [102,111,114])=false:=(by rw[ho];decide);have q10:(o.toList== [99,97,115,101])=false:=(by rw[ho];decide);have q11:(o.toList== [102,117,110])=false:=(by rw[ho];decide);have q12:(o.toList== [103,114,111,117,112])=false:=(by rw[ho];decide);have q13:(o.toList== [115,117,98])=false:=(by rw[ho];decide);have HH:=yH h;have HA:=yH (node_all w o x (.slice kp KL kc) (.slice wp WL wc) (.slice pp PL pc) (.slice ap AL ac) (.slice rp RL rc) 44);have HBX:=yH (fun o=>below_one w o);clear h ho
  cases RD with
  |false=>
    go_enter Tryz.func15,Tryz.ntmps15;go_wp2_with fail;obtain⟨v,hv⟩:∃v,w.alloc (.cells #[.string o,.string x,.slice kp KL kc,.slice wp WL wc,.slice pp PL pc,.slice ap AL ac,.slice rp RL rc] 44)=v:=⟨_,rfl⟩;have HV:=yH (show Below w.heap.size w v by rw[←hv];exact HBX.out _);have HA:=yH (show ∀W,Below v.heap.size v W→_ from by rw[←hv];exact HA.out);rw[hv];clear hv;refine(HH.out.rd _ HV.out).mono ?_;rintro e w1 ⟨rfl,hb⟩;have HQ1:=yH hb;obtain⟨n0,n1,n2,n3,n4,n5,n6⟩:=HA.out w1 HQ1.out;clear hb;go_wp2_with fail;go_ret;exact rB HV HQ1
  |true=>
    cases EA with
    |false=>
      replace hA:(0:Int)<(AL:Int):=of_decide_eq_true hA;go_enter Tryz.func15,Tryz.ntmps15;go_wp2_with fail;obtain⟨v,hv⟩:∃v,w.alloc (.cells #[.string o,.string x,.slice kp KL kc,.slice wp WL wc,.slice pp PL pc,.slice ap AL ac,.slice rp RL rc] 44)=v:=⟨_,rfl⟩;have HV:=yH (show Below w.heap.size w v by rw[←hv];exact HBX.out _);have HA:=yH (show ∀W,Below v.heap.size v W→_ from by rw[←hv];exact HA.out);rw[hv];clear hv;refine(HH.out.rd _ HV.out).mono ?_;rintro e w1 ⟨rfl,hb⟩;have HQ1:=yH hb;obtain⟨n0,n1,n2,n3,n4,n5,n6⟩:=HA.out w1 HQ1.out;clear hb;go_wp2_with fail;go_ret;exact rB HV HQ1
    |true=>
      replace hA:¬(0:Int)<(AL:Int):=of_decide_eq_false hA
      cases EP with
      |false=>
        replace hP:(0:Int)<(PL:Int):=of_decide_eq_true hP;go_enter Tryz.func15,Tryz.ntmps15;go_wp2_with fail;obtain⟨v,hv⟩:∃v,w.alloc (.cells #[.string o,.string x,.slice kp KL kc,.slice wp WL wc,.slice pp PL pc,.slice ap AL ac,.slice rp RL rc] 44)=v:=⟨_,rfl⟩;have HV:=yH (show Below w.heap.size w v by rw[←hv];exact HBX.out _);have HA:=yH (show ∀W,Below v.heap.size v W→_ from by rw[←hv];exact HA.out);rw[hv];clear hv;refine(HH.out.rd _ HV.out).mono ?_;rintro e w1 ⟨rfl,hb⟩;have HQ1:=yH hb;obtain⟨n0,n1,n2,n3,n4,n5,n6⟩:=HA.out w1 HQ1.out;clear hb;go_wp2_with fail;go_ret;exact rB HV HQ1
      |true=>
        replace hP:¬(0:Int)<(PL:Int):=of_decide_eq_false hP
        cases EN with
        |false=>
          go_enter Tryz.func15,Tryz.ntmps15;go_wp2_with fail;obtain⟨v,hv⟩:∃v,w.alloc (.cells #[.string o,.string x,.slice kp KL kc,.slice wp WL wc,.slice pp PL pc,.slice ap AL ac,.slice rp RL rc] 44)=v:=⟨_,rfl⟩;have HV:=yH (show Below w.heap.size w v by rw[←hv];exact HBX.out _);have HA:=yH (show ∀W,Below v.heap.size v W→_ from by rw[←hv];exact HA.out);rw[hv];clear hv;refine(HH.out.rd _ HV.out).mono ?_;rintro e w1 ⟨rfl,hb⟩;have HQ1:=yH hb;obtain⟨n0,n1,n2,n3,n4,n5,n6⟩:=HA.out w1 HQ1.out;clear hb;go_wp2_with fail;go_ret;exact rB HV HQ1
        |true=>
          cases EW with
          |false=>
            replace hW:(0:Int)<(WL:Int):=of_decide_eq_true hW;go_enter Tryz.func15,Tryz.ntmps15;go_wp2_with fail;obtain⟨v,hv⟩:∃v,w.alloc (.cells #[.string o,.string x,.slice kp KL kc,.slice wp WL wc,.slice pp PL pc,.slice ap AL ac,.slice rp RL rc] 44)=v:=⟨_,rfl⟩;have HV:=yH (show Below w.heap.size w v by rw[←hv];exact HBX.out _);have HA:=yH (show ∀W,Below v.heap.size v W→_ from by rw[←hv];exact HA.out);rw[hv];clear hv;refine(HH.out.rd _ HV.out).mono ?_;rintro e w1 ⟨rfl,hb⟩;have HQ1:=yH hb;obtain⟨n0,n1,n2,n3,n4,n5,n6⟩:=HA.out w1 HQ1.out;clear hb;go_wp2_with fail;go_ret;exact rB HV HQ1
          |true=>
            replace hW:¬(0:Int)<(WL:Int):=of_decide_eq_false hW;obtain⟨K,hK⟩:∃K,((KL:Int)==2)=K:=⟨_,rfl⟩;rw[hK];go_enter Tryz.func15,Tryz.ntmps15;go_wp2_with fail;obtain⟨v,hv⟩:∃v,w.alloc (.cells #[.string o,.string x,.slice kp KL kc,.slice wp WL wc,.slice pp PL pc,.slice ap AL ac,.slice rp RL rc] 44)=v:=⟨_,rfl⟩;have HV:=yH (show Below w.heap.size w v by rw[←hv];exact HBX.out _);have HA:=yH (show ∀W,Below v.heap.size v W→_ from by rw[←hv];exact HA.out);rw[hv];clear hv;refine(HH.out.rd _ HV.out).mono ?_;rintro e w1 ⟨rfl,hb⟩;have HQ1:=yH hb;obtain⟨n0,n1,n2,n3,n4,n5,n6⟩:=HA.out w1 HQ1.out;clear hb;go_wp2_with fail;go_ret;exact rB HV HQ1
set_option maxHeartbeats 16000000 in
set_option maxRecDepth 100000 in
theorem rone_not {w:World} {o x:ByteArray} {kp wp pp ap rp:Option Addr} {KL WL PL AL RL kc wc pc ac rc:Nat} {RD CM N RS WA PT EA EP EN EW:Bool} (ho:o.toList= [110,111,116]) (h:OneC w o x kp wp pp ap rp KL WL PL AL RL kc wc pc ac rc RD CM N RS WA PT)
    (hA:decide ((0:Int)<(AL:Int))= !EA) (hP:decide ((0:Int)<(PL:Int))= !EP) (hW:decide ((0:Int)<(WL:Int))= !EW) (hN:x.toList.isEmpty=EN):
    Calls Tryz.prog 15 #[.agg #[.string o,.string x,.slice kp KL kc,.slice wp WL wc,.slice pp PL pc,.slice ap AL ac,.slice rp RL rc]] w fun e w'=>e= .returned (.bool (RD&&(EA&&(EP&&(EN&&(EW&&((KL:Int)==1)))))))∧Below w.heap.size w w':=by
  have q0:(o.toList== [99,109,100])=false:=(by rw[ho];decide);have q1:(o.toList== [115,101,113])=false:=(by rw[ho];decide);have q2:(o.toList== [97,110,100])=false:=(by rw[ho];decide);have q3:(o.toList== [111,114])=false:=(by rw[ho];decide);have q4:(o.toList== [110,111,116])=true:=(by rw[ho];decide);have q5:(o.toList== [112,105,112,101])=false:=(by rw[ho];decide);have q6:(o.toList== [105,102])=false:=(by rw[ho];decide);have q7:(o.toList== [119,104,105,108,101])=false:=(by rw[ho];decide);have q8:(o.toList== [117,110,116,105,108])=false:=(by rw[ho];decide);have q9:(o.toList== [102,111,114])=false:=(by rw[ho];decide);have q10:(o.toList== [99,97,115,101])=false:=(by rw[ho];decide);have q11:(o.toList== [102,117,110])=false:=(by rw[ho];decide);have q12:(o.toList== [103,114,111,117,112])=false:=(by rw[ho];decide);have q13:(o.toList== [115,117,98])=false:=(by rw[ho];decide);have HH:=yH h;have HA:=yH (node_all w o x (.slice kp KL kc) (.slice wp WL wc) (.slice pp PL pc) (.slice ap AL ac) (.slice rp RL rc) 44);have HBX:=yH (fun o=>below_one w o);clear h ho
  cases RD with
  |false=>
    go_enter Tryz.func15,Tryz.ntmps15;go_wp2_with fail;obtain⟨v,hv⟩:∃v,w.alloc (.cells #[.string o,.string x,.slice kp KL kc,.slice wp WL wc,.slice pp PL pc,.slice ap AL ac,.slice rp RL rc] 44)=v:=⟨_,rfl⟩;have HV:=yH (show Below w.heap.size w v by rw[←hv];exact HBX.out _);have HA:=yH (show ∀W,Below v.heap.size v W→_ from by rw[←hv];exact HA.out);rw[hv];clear hv;refine(HH.out.rd _ HV.out).mono ?_;rintro e w1 ⟨rfl,hb⟩;have HQ1:=yH hb;obtain⟨n0,n1,n2,n3,n4,n5,n6⟩:=HA.out w1 HQ1.out;clear hb;go_wp2_with fail;go_ret;exact rB HV HQ1
  |true=>
    cases EA with
    |false=>
      replace hA:(0:Int)<(AL:Int):=of_decide_eq_true hA;go_enter Tryz.func15,Tryz.ntmps15;go_wp2_with fail;obtain⟨v,hv⟩:∃v,w.alloc (.cells #[.string o,.string x,.slice kp KL kc,.slice wp WL wc,.slice pp PL pc,.slice ap AL ac,.slice rp RL rc] 44)=v:=⟨_,rfl⟩;have HV:=yH (show Below w.heap.size w v by rw[←hv];exact HBX.out _);have HA:=yH (show ∀W,Below v.heap.size v W→_ from by rw[←hv];exact HA.out);rw[hv];clear hv;refine(HH.out.rd _ HV.out).mono ?_;rintro e w1 ⟨rfl,hb⟩;have HQ1:=yH hb;obtain⟨n0,n1,n2,n3,n4,n5,n6⟩:=HA.out w1 HQ1.out;clear hb;go_wp2_with fail;go_ret;exact rB HV HQ1
    |true=>
      replace hA:¬(0:Int)<(AL:Int):=of_decide_eq_false hA
      cases EP with
      |false=>
        replace hP:(0:Int)<(PL:Int):=of_decide_eq_true hP;go_enter Tryz.func15,Tryz.ntmps15;go_wp2_with fail;obtain⟨v,hv⟩:∃v,w.alloc (.cells #[.string o,.string x,.slice kp KL kc,.slice wp WL wc,.slice pp PL pc,.slice ap AL ac,.slice rp RL rc] 44)=v:=⟨_,rfl⟩;have HV:=yH (show Below w.heap.size w v by rw[←hv];exact HBX.out _);have HA:=yH (show ∀W,Below v.heap.size v W→_ from by rw[←hv];exact HA.out);rw[hv];clear hv;refine(HH.out.rd _ HV.out).mono ?_;rintro e w1 ⟨rfl,hb⟩;have HQ1:=yH hb;obtain⟨n0,n1,n2,n3,n4,n5,n6⟩:=HA.out w1 HQ1.out;clear hb;go_wp2_with fail;go_ret;exact rB HV HQ1
      |true=>
        replace hP:¬(0:Int)<(PL:Int):=of_decide_eq_false hP
        cases EN with
        |false=>
          go_enter Tryz.func15,Tryz.ntmps15;go_wp2_with fail;obtain⟨v,hv⟩:∃v,w.alloc (.cells #[.string o,.string x,.slice kp KL kc,.slice wp WL wc,.slice pp PL pc,.slice ap AL ac,.slice rp RL rc] 44)=v:=⟨_,rfl⟩;have HV:=yH (show Below w.heap.size w v by rw[←hv];exact HBX.out _);have HA:=yH (show ∀W,Below v.heap.size v W→_ from by rw[←hv];exact HA.out);rw[hv];clear hv;refine(HH.out.rd _ HV.out).mono ?_;rintro e w1 ⟨rfl,hb⟩;have HQ1:=yH hb;obtain⟨n0,n1,n2,n3,n4,n5,n6⟩:=HA.out w1 HQ1.out;clear hb;go_wp2_with fail;go_ret;exact rB HV HQ1
        |true=>
          cases EW with
          |false=>
            replace hW:(0:Int)<(WL:Int):=of_decide_eq_true hW;go_enter Tryz.func15,Tryz.ntmps15;go_wp2_with fail;obtain⟨v,hv⟩:∃v,w.alloc (.cells #[.string o,.string x,.slice kp KL kc,.slice wp WL wc,.slice pp PL pc,.slice ap AL ac,.slice rp RL rc] 44)=v:=⟨_,rfl⟩;have HV:=yH (show Below w.heap.size w v by rw[←hv];exact HBX.out _);have HA:=yH (show ∀W,Below v.heap.size v W→_ from by rw[←hv];exact HA.out);rw[hv];clear hv;refine(HH.out.rd _ HV.out).mono ?_;rintro e w1 ⟨rfl,hb⟩;have HQ1:=yH hb;obtain⟨n0,n1,n2,n3,n4,n5,n6⟩:=HA.out w1 HQ1.out;clear hb;go_wp2_with fail;go_ret;exact rB HV HQ1
          |true=>
            replace hW:¬(0:Int)<(WL:Int):=of_decide_eq_false hW;obtain⟨K,hK⟩:∃K,((KL:Int)==1)=K:=⟨_,rfl⟩;rw[hK];go_enter Tryz.func15,Tryz.ntmps15;go_wp2_with fail;obtain⟨v,hv⟩:∃v,w.alloc (.cells #[.string o,.string x,.slice kp KL kc,.slice wp WL wc,.slice pp PL pc,.slice ap AL ac,.slice rp RL rc] 44)=v:=⟨_,rfl⟩;have HV:=yH (show Below w.heap.size w v by rw[←hv];exact HBX.out _);have HA:=yH (show ∀W,Below v.heap.size v W→_ from by rw[←hv];exact HA.out);rw[hv];clear hv;refine(HH.out.rd _ HV.out).mono ?_;rintro e w1 ⟨rfl,hb⟩;have HQ1:=yH hb;obtain⟨n0,n1,n2,n3,n4,n5,n6⟩:=HA.out w1 HQ1.out;clear hb;go_wp2_with fail;go_ret;exact rB HV HQ1
set_option maxHeartbeats 16000000 in
set_option maxRecDepth 100000 in
theorem rone_group {w:World} {o x:ByteArray} {kp wp pp ap rp:Option Addr} {KL WL PL AL RL kc wc pc ac rc:Nat} {RD CM N RS WA PT EA EP EN EW:Bool} (ho:o.toList= [103,114,111,117,112]) (h:OneC w o x kp wp pp ap rp KL WL PL AL RL kc wc pc ac rc RD CM N RS WA PT)
    (hA:decide ((0:Int)<(AL:Int))= !EA) (hP:decide ((0:Int)<(PL:Int))= !EP) (hW:decide ((0:Int)<(WL:Int))= !EW) (hN:x.toList.isEmpty=EN):
    Calls Tryz.prog 15 #[.agg #[.string o,.string x,.slice kp KL kc,.slice wp WL wc,.slice pp PL pc,.slice ap AL ac,.slice rp RL rc]] w fun e w'=>e= .returned (.bool (RD&&(EA&&(EP&&(EN&&(EW&&((KL:Int)==1)))))))∧Below w.heap.size w w':=by
  have q0:(o.toList== [99,109,100])=false:=(by rw[ho];decide);have q1:(o.toList== [115,101,113])=false:=(by rw[ho];decide);have q2:(o.toList== [97,110,100])=false:=(by rw[ho];decide);have q3:(o.toList== [111,114])=false:=(by rw[ho];decide);have q4:(o.toList== [110,111,116])=false:=(by rw[ho];decide);have q5:(o.toList== [112,105,112,101])=false:=(by rw[ho];decide);have q6:(o.toList== [105,102])=false:=(by rw[ho];decide);have q7:(o.toList== [119,104,105,108,101])=false:=(by rw[ho];decide);have q8:(o.toList== [117,110,116,105,108])=false:=(by rw[ho];decide);have q9:(o.toList== [102,111,114])=false:=(by rw[ho];decide);have q10:(o.toList== [99,97,115,101])=false:=(by rw[ho];decide);have q11:(o.toList== [102,117,110])=false:=(by rw[ho];decide);have q12:(o.toList== [103,114,111,117,112])=true:=(by rw[ho];decide);have q13:(o.toList== [115,117,98])=false:=(by rw[ho];decide);have HH:=yH h;have HA:=yH (node_all w o x (.slice kp KL kc) (.slice wp WL wc) (.slice pp PL pc) (.slice ap AL ac) (.slice rp RL rc) 44);have HBX:=yH (fun o=>below_one w o);clear h ho
  cases RD with
  |false=>
    go_enter Tryz.func15,Tryz.ntmps15;go_wp2_with fail;obtain⟨v,hv⟩:∃v,w.alloc (.cells #[.string o,.string x,.slice kp KL kc,.slice wp WL wc,.slice pp PL pc,.slice ap AL ac,.slice rp RL rc] 44)=v:=⟨_,rfl⟩;have HV:=yH (show Below w.heap.size w v by rw[←hv];exact HBX.out _);have HA:=yH (show ∀W,Below v.heap.size v W→_ from by rw[←hv];exact HA.out);rw[hv];clear hv;refine(HH.out.rd _ HV.out).mono ?_;rintro e w1 ⟨rfl,hb⟩;have HQ1:=yH hb;obtain⟨n0,n1,n2,n3,n4,n5,n6⟩:=HA.out w1 HQ1.out;clear hb;go_wp2_with fail;go_ret;exact rB HV HQ1
  |true=>
    cases EA with
    |false=>
      replace hA:(0:Int)<(AL:Int):=of_decide_eq_true hA;go_enter Tryz.func15,Tryz.ntmps15;go_wp2_with fail;obtain⟨v,hv⟩:∃v,w.alloc (.cells #[.string o,.string x,.slice kp KL kc,.slice wp WL wc,.slice pp PL pc,.slice ap AL ac,.slice rp RL rc] 44)=v:=⟨_,rfl⟩;have HV:=yH (show Below w.heap.size w v by rw[←hv];exact HBX.out _);have HA:=yH (show ∀W,Below v.heap.size v W→_ from by rw[←hv];exact HA.out);rw[hv];clear hv;refine(HH.out.rd _ HV.out).mono ?_;rintro e w1 ⟨rfl,hb⟩;have HQ1:=yH hb;obtain⟨n0,n1,n2,n3,n4,n5,n6⟩:=HA.out w1 HQ1.out;clear hb;go_wp2_with fail;go_ret;exact rB HV HQ1
    |true=>
      replace hA:¬(0:Int)<(AL:Int):=of_decide_eq_false hA
      cases EP with
      |false=>
        replace hP:(0:Int)<(PL:Int):=of_decide_eq_true hP;go_enter Tryz.func15,Tryz.ntmps15;go_wp2_with fail;obtain⟨v,hv⟩:∃v,w.alloc (.cells #[.string o,.string x,.slice kp KL kc,.slice wp WL wc,.slice pp PL pc,.slice ap AL ac,.slice rp RL rc] 44)=v:=⟨_,rfl⟩;have HV:=yH (show Below w.heap.size w v by rw[←hv];exact HBX.out _);have HA:=yH (show ∀W,Below v.heap.size v W→_ from by rw[←hv];exact HA.out);rw[hv];clear hv;refine(HH.out.rd _ HV.out).mono ?_;rintro e w1 ⟨rfl,hb⟩;have HQ1:=yH hb;obtain⟨n0,n1,n2,n3,n4,n5,n6⟩:=HA.out w1 HQ1.out;clear hb;go_wp2_with fail;go_ret;exact rB HV HQ1
      |true=>
        replace hP:¬(0:Int)<(PL:Int):=of_decide_eq_false hP
        cases EN with
        |false=>
          go_enter Tryz.func15,Tryz.ntmps15;go_wp2_with fail;obtain⟨v,hv⟩:∃v,w.alloc (.cells #[.string o,.string x,.slice kp KL kc,.slice wp WL wc,.slice pp PL pc,.slice ap AL ac,.slice rp RL rc] 44)=v:=⟨_,rfl⟩;have HV:=yH (show Below w.heap.size w v by rw[←hv];exact HBX.out _);have HA:=yH (show ∀W,Below v.heap.size v W→_ from by rw[←hv];exact HA.out);rw[hv];clear hv;refine(HH.out.rd _ HV.out).mono ?_;rintro e w1 ⟨rfl,hb⟩;have HQ1:=yH hb;obtain⟨n0,n1,n2,n3,n4,n5,n6⟩:=HA.out w1 HQ1.out;clear hb;go_wp2_with fail;go_ret;exact rB HV HQ1
        |true=>
          cases EW with
          |false=>
            replace hW:(0:Int)<(WL:Int):=of_decide_eq_true hW;go_enter Tryz.func15,Tryz.ntmps15;go_wp2_with fail;obtain⟨v,hv⟩:∃v,w.alloc (.cells #[.string o,.string x,.slice kp KL kc,.slice wp WL wc,.slice pp PL pc,.slice ap AL ac,.slice rp RL rc] 44)=v:=⟨_,rfl⟩;have HV:=yH (show Below w.heap.size w v by rw[←hv];exact HBX.out _);have HA:=yH (show ∀W,Below v.heap.size v W→_ from by rw[←hv];exact HA.out);rw[hv];clear hv;refine(HH.out.rd _ HV.out).mono ?_;rintro e w1 ⟨rfl,hb⟩;have HQ1:=yH hb;obtain⟨n0,n1,n2,n3,n4,n5,n6⟩:=HA.out w1 HQ1.out;clear hb;go_wp2_with fail;go_ret;exact rB HV HQ1
          |true=>
            replace hW:¬(0:Int)<(WL:Int):=of_decide_eq_false hW;obtain⟨K,hK⟩:∃K,((KL:Int)==1)=K:=⟨_,rfl⟩;rw[hK];go_enter Tryz.func15,Tryz.ntmps15;go_wp2_with fail;obtain⟨v,hv⟩:∃v,w.alloc (.cells #[.string o,.string x,.slice kp KL kc,.slice wp WL wc,.slice pp PL pc,.slice ap AL ac,.slice rp RL rc] 44)=v:=⟨_,rfl⟩;have HV:=yH (show Below w.heap.size w v by rw[←hv];exact HBX.out _);have HA:=yH (show ∀W,Below v.heap.size v W→_ from by rw[←hv];exact HA.out);rw[hv];clear hv;refine(HH.out.rd _ HV.out).mono ?_;rintro e w1 ⟨rfl,hb⟩;have HQ1:=yH hb;obtain⟨n0,n1,n2,n3,n4,n5,n6⟩:=HA.out w1 HQ1.out;clear hb;go_wp2_with fail;go_ret;exact rB HV HQ1
set_option maxHeartbeats 16000000 in
set_option maxRecDepth 100000 in
theorem rone_sub {w:World} {o x:ByteArray} {kp wp pp ap rp:Option Addr} {KL WL PL AL RL kc wc pc ac rc:Nat} {RD CM N RS WA PT EA EP EN EW:Bool} (ho:o.toList= [115,117,98]) (h:OneC w o x kp wp pp ap rp KL WL PL AL RL kc wc pc ac rc RD CM N RS WA PT)
    (hA:decide ((0:Int)<(AL:Int))= !EA) (hP:decide ((0:Int)<(PL:Int))= !EP) (hW:decide ((0:Int)<(WL:Int))= !EW) (hN:x.toList.isEmpty=EN):
    Calls Tryz.prog 15 #[.agg #[.string o,.string x,.slice kp KL kc,.slice wp WL wc,.slice pp PL pc,.slice ap AL ac,.slice rp RL rc]] w fun e w'=>e= .returned (.bool (RD&&(EA&&(EP&&(EN&&(EW&&((KL:Int)==1)))))))∧Below w.heap.size w w':=by
  have q0:(o.toList== [99,109,100])=false:=(by rw[ho];decide);have q1:(o.toList== [115,101,113])=false:=(by rw[ho];decide);have q2:(o.toList== [97,110,100])=false:=(by rw[ho];decide);have q3:(o.toList== [111,114])=false:=(by rw[ho];decide);have q4:(o.toList== [110,111,116])=false:=(by rw[ho];decide);have q5:(o.toList== [112,105,112,101])=false:=(by rw[ho];decide);have q6:(o.toList== [105,102])=false:=(by rw[ho];decide);have q7:(o.toList== [119,104,105,108,101])=false:=(by rw[ho];decide);have q8:(o.toList== [117,110,116,105,108])=false:=(by rw[ho];decide);have q9:(o.toList== [102,111,114])=false:=(by rw[ho];decide);have q10:(o.toList== [99,97,115,101])=false:=(by rw[ho];decide);have q11:(o.toList== [102,117,110])=false:=(by rw[ho];decide);have q12:(o.toList== [103,114,111,117,112])=false:=(by rw[ho];decide);have q13:(o.toList== [115,117,98])=true:=(by rw[ho];decide);have HH:=yH h;have HA:=yH (node_all w o x (.slice kp KL kc) (.slice wp WL wc) (.slice pp PL pc) (.slice ap AL ac) (.slice rp RL rc) 44);have HBX:=yH (fun o=>below_one w o);clear h ho
  cases RD with
  |false=>
    go_enter Tryz.func15,Tryz.ntmps15;go_wp2_with fail;obtain⟨v,hv⟩:∃v,w.alloc (.cells #[.string o,.string x,.slice kp KL kc,.slice wp WL wc,.slice pp PL pc,.slice ap AL ac,.slice rp RL rc] 44)=v:=⟨_,rfl⟩;have HV:=yH (show Below w.heap.size w v by rw[←hv];exact HBX.out _);have HA:=yH (show ∀W,Below v.heap.size v W→_ from by rw[←hv];exact HA.out);rw[hv];clear hv;refine(HH.out.rd _ HV.out).mono ?_;rintro e w1 ⟨rfl,hb⟩;have HQ1:=yH hb;obtain⟨n0,n1,n2,n3,n4,n5,n6⟩:=HA.out w1 HQ1.out;clear hb;go_wp2_with fail;go_ret;exact rB HV HQ1
  |true=>
    cases EA with
    |false=>
      replace hA:(0:Int)<(AL:Int):=of_decide_eq_true hA;go_enter Tryz.func15,Tryz.ntmps15;go_wp2_with fail;obtain⟨v,hv⟩:∃v,w.alloc (.cells #[.string o,.string x,.slice kp KL kc,.slice wp WL wc,.slice pp PL pc,.slice ap AL ac,.slice rp RL rc] 44)=v:=⟨_,rfl⟩;have HV:=yH (show Below w.heap.size w v by rw[←hv];exact HBX.out _);have HA:=yH (show ∀W,Below v.heap.size v W→_ from by rw[←hv];exact HA.out);rw[hv];clear hv;refine(HH.out.rd _ HV.out).mono ?_;rintro e w1 ⟨rfl,hb⟩;have HQ1:=yH hb;obtain⟨n0,n1,n2,n3,n4,n5,n6⟩:=HA.out w1 HQ1.out;clear hb;go_wp2_with fail;go_ret;exact rB HV HQ1
    |true=>
      replace hA:¬(0:Int)<(AL:Int):=of_decide_eq_false hA
      cases EP with
      |false=>
        replace hP:(0:Int)<(PL:Int):=of_decide_eq_true hP;go_enter Tryz.func15,Tryz.ntmps15;go_wp2_with fail;obtain⟨v,hv⟩:∃v,w.alloc (.cells #[.string o,.string x,.slice kp KL kc,.slice wp WL wc,.slice pp PL pc,.slice ap AL ac,.slice rp RL rc] 44)=v:=⟨_,rfl⟩;have HV:=yH (show Below w.heap.size w v by rw[←hv];exact HBX.out _);have HA:=yH (show ∀W,Below v.heap.size v W→_ from by rw[←hv];exact HA.out);rw[hv];clear hv;refine(HH.out.rd _ HV.out).mono ?_;rintro e w1 ⟨rfl,hb⟩;have HQ1:=yH hb;obtain⟨n0,n1,n2,n3,n4,n5,n6⟩:=HA.out w1 HQ1.out;clear hb;go_wp2_with fail;go_ret;exact rB HV HQ1
      |true=>
        replace hP:¬(0:Int)<(PL:Int):=of_decide_eq_false hP
        cases EN with
        |false=>
          go_enter Tryz.func15,Tryz.ntmps15;go_wp2_with fail;obtain⟨v,hv⟩:∃v,w.alloc (.cells #[.string o,.string x,.slice kp KL kc,.slice wp WL wc,.slice pp PL pc,.slice ap AL ac,.slice rp RL rc] 44)=v:=⟨_,rfl⟩;have HV:=yH (show Below w.heap.size w v by rw[←hv];exact HBX.out _);have HA:=yH (show ∀W,Below v.heap.size v W→_ from by rw[←hv];exact HA.out);rw[hv];clear hv;refine(HH.out.rd _ HV.out).mono ?_;rintro e w1 ⟨rfl,hb⟩;have HQ1:=yH hb;obtain⟨n0,n1,n2,n3,n4,n5,n6⟩:=HA.out w1 HQ1.out;clear hb;go_wp2_with fail;go_ret;exact rB HV HQ1
        |true=>
          cases EW with
          |false=>
            replace hW:(0:Int)<(WL:Int):=of_decide_eq_true hW;go_enter Tryz.func15,Tryz.ntmps15;go_wp2_with fail;obtain⟨v,hv⟩:∃v,w.alloc (.cells #[.string o,.string x,.slice kp KL kc,.slice wp WL wc,.slice pp PL pc,.slice ap AL ac,.slice rp RL rc] 44)=v:=⟨_,rfl⟩;have HV:=yH (show Below w.heap.size w v by rw[←hv];exact HBX.out _);have HA:=yH (show ∀W,Below v.heap.size v W→_ from by rw[←hv];exact HA.out);rw[hv];clear hv;refine(HH.out.rd _ HV.out).mono ?_;rintro e w1 ⟨rfl,hb⟩;have HQ1:=yH hb;obtain⟨n0,n1,n2,n3,n4,n5,n6⟩:=HA.out w1 HQ1.out;clear hb;go_wp2_with fail;go_ret;exact rB HV HQ1
          |true=>
            replace hW:¬(0:Int)<(WL:Int):=of_decide_eq_false hW;obtain⟨K,hK⟩:∃K,((KL:Int)==1)=K:=⟨_,rfl⟩;rw[hK];go_enter Tryz.func15,Tryz.ntmps15;go_wp2_with fail;obtain⟨v,hv⟩:∃v,w.alloc (.cells #[.string o,.string x,.slice kp KL kc,.slice wp WL wc,.slice pp PL pc,.slice ap AL ac,.slice rp RL rc] 44)=v:=⟨_,rfl⟩;have HV:=yH (show Below w.heap.size w v by rw[←hv];exact HBX.out _);have HA:=yH (show ∀W,Below v.heap.size v W→_ from by rw[←hv];exact HA.out);rw[hv];clear hv;refine(HH.out.rd _ HV.out).mono ?_;rintro e w1 ⟨rfl,hb⟩;have HQ1:=yH hb;obtain⟨n0,n1,n2,n3,n4,n5,n6⟩:=HA.out w1 HQ1.out;clear hb;go_wp2_with fail;go_ret;exact rB HV HQ1
set_option maxHeartbeats 16000000 in
set_option maxRecDepth 100000 in
theorem rone_while {w:World} {o x:ByteArray} {kp wp pp ap rp:Option Addr} {KL WL PL AL RL kc wc pc ac rc:Nat} {RD CM N RS WA PT EA EP EN EW:Bool} (ho:o.toList= [119,104,105,108,101]) (h:OneC w o x kp wp pp ap rp KL WL PL AL RL kc wc pc ac rc RD CM N RS WA PT)
    (hA:decide ((0:Int)<(AL:Int))= !EA) (hP:decide ((0:Int)<(PL:Int))= !EP) (hW:decide ((0:Int)<(WL:Int))= !EW) (hN:x.toList.isEmpty=EN):
    Calls Tryz.prog 15 #[.agg #[.string o,.string x,.slice kp KL kc,.slice wp WL wc,.slice pp PL pc,.slice ap AL ac,.slice rp RL rc]] w fun e w'=>e= .returned (.bool (RD&&(EA&&(EP&&(EN&&(EW&&((KL:Int)==2)))))))∧Below w.heap.size w w':=by
  have q0:(o.toList== [99,109,100])=false:=(by rw[ho];decide);have q1:(o.toList== [115,101,113])=false:=(by rw[ho];decide);have q2:(o.toList== [97,110,100])=false:=(by rw[ho];decide);have q3:(o.toList== [111,114])=false:=(by rw[ho];decide);have q4:(o.toList== [110,111,116])=false:=(by rw[ho];decide);have q5:(o.toList== [112,105,112,101])=false:=(by rw[ho];decide);have q6:(o.toList== [105,102])=false:=(by rw[ho];decide);have q7:(o.toList== [119,104,105,108,101])=true:=(by rw[ho];decide);have q8:(o.toList== [117,110,116,105,108])=false:=(by rw[ho];decide);have q9:(o.toList== [102,111,114])=false:=(by rw[ho];decide);have q10:(o.toList== [99,97,115,101])=false:=(by rw[ho];decide);have q11:(o.toList== [102,117,110])=false:=(by rw[ho];decide);have q12:(o.toList== [103,114,111,117,112])=false:=(by rw[ho];decide);have q13:(o.toList== [115,117,98])=false:=(by rw[ho];decide);have HH:=yH h;have HA:=yH (node_all w o x (.slice kp KL kc) (.slice wp WL wc) (.slice pp PL pc) (.slice ap AL ac) (.slice rp RL rc) 44);have HBX:=yH (fun o=>below_one w o);clear h ho
  cases RD with
  |false=>
    go_enter Tryz.func15,Tryz.ntmps15;go_wp2_with fail;obtain⟨v,hv⟩:∃v,w.alloc (.cells #[.string o,.string x,.slice kp KL kc,.slice wp WL wc,.slice pp PL pc,.slice ap AL ac,.slice rp RL rc] 44)=v:=⟨_,rfl⟩;have HV:=yH (show Below w.heap.size w v by rw[←hv];exact HBX.out _);have HA:=yH (show ∀W,Below v.heap.size v W→_ from by rw[←hv];exact HA.out);rw[hv];clear hv;refine(HH.out.rd _ HV.out).mono ?_;rintro e w1 ⟨rfl,hb⟩;have HQ1:=yH hb;obtain⟨n0,n1,n2,n3,n4,n5,n6⟩:=HA.out w1 HQ1.out;clear hb;go_wp2_with fail;go_ret;exact rB HV HQ1
  |true=>
    cases EA with
    |false=>
      replace hA:(0:Int)<(AL:Int):=of_decide_eq_true hA;go_enter Tryz.func15,Tryz.ntmps15;go_wp2_with fail;obtain⟨v,hv⟩:∃v,w.alloc (.cells #[.string o,.string x,.slice kp KL kc,.slice wp WL wc,.slice pp PL pc,.slice ap AL ac,.slice rp RL rc] 44)=v:=⟨_,rfl⟩;have HV:=yH (show Below w.heap.size w v by rw[←hv];exact HBX.out _);have HA:=yH (show ∀W,Below v.heap.size v W→_ from by rw[←hv];exact HA.out);rw[hv];clear hv;refine(HH.out.rd _ HV.out).mono ?_;rintro e w1 ⟨rfl,hb⟩;have HQ1:=yH hb;obtain⟨n0,n1,n2,n3,n4,n5,n6⟩:=HA.out w1 HQ1.out;clear hb;go_wp2_with fail;go_ret;exact rB HV HQ1
    |true=>
      replace hA:¬(0:Int)<(AL:Int):=of_decide_eq_false hA
      cases EP with
      |false=>
        replace hP:(0:Int)<(PL:Int):=of_decide_eq_true hP;go_enter Tryz.func15,Tryz.ntmps15;go_wp2_with fail;obtain⟨v,hv⟩:∃v,w.alloc (.cells #[.string o,.string x,.slice kp KL kc,.slice wp WL wc,.slice pp PL pc,.slice ap AL ac,.slice rp RL rc] 44)=v:=⟨_,rfl⟩;have HV:=yH (show Below w.heap.size w v by rw[←hv];exact HBX.out _);have HA:=yH (show ∀W,Below v.heap.size v W→_ from by rw[←hv];exact HA.out);rw[hv];clear hv;refine(HH.out.rd _ HV.out).mono ?_;rintro e w1 ⟨rfl,hb⟩;have HQ1:=yH hb;obtain⟨n0,n1,n2,n3,n4,n5,n6⟩:=HA.out w1 HQ1.out;clear hb;go_wp2_with fail;go_ret;exact rB HV HQ1
      |true=>
        replace hP:¬(0:Int)<(PL:Int):=of_decide_eq_false hP
        cases EN with
        |false=>
          go_enter Tryz.func15,Tryz.ntmps15;go_wp2_with fail;obtain⟨v,hv⟩:∃v,w.alloc (.cells #[.string o,.string x,.slice kp KL kc,.slice wp WL wc,.slice pp PL pc,.slice ap AL ac,.slice rp RL rc] 44)=v:=⟨_,rfl⟩;have HV:=yH (show Below w.heap.size w v by rw[←hv];exact HBX.out _);have HA:=yH (show ∀W,Below v.heap.size v W→_ from by rw[←hv];exact HA.out);rw[hv];clear hv;refine(HH.out.rd _ HV.out).mono ?_;rintro e w1 ⟨rfl,hb⟩;have HQ1:=yH hb;obtain⟨n0,n1,n2,n3,n4,n5,n6⟩:=HA.out w1 HQ1.out;clear hb;go_wp2_with fail;go_ret;exact rB HV HQ1
        |true=>
          cases EW with
          |false=>
            replace hW:(0:Int)<(WL:Int):=of_decide_eq_true hW;go_enter Tryz.func15,Tryz.ntmps15;go_wp2_with fail;obtain⟨v,hv⟩:∃v,w.alloc (.cells #[.string o,.string x,.slice kp KL kc,.slice wp WL wc,.slice pp PL pc,.slice ap AL ac,.slice rp RL rc] 44)=v:=⟨_,rfl⟩;have HV:=yH (show Below w.heap.size w v by rw[←hv];exact HBX.out _);have HA:=yH (show ∀W,Below v.heap.size v W→_ from by rw[←hv];exact HA.out);rw[hv];clear hv;refine(HH.out.rd _ HV.out).mono ?_;rintro e w1 ⟨rfl,hb⟩;have HQ1:=yH hb;obtain⟨n0,n1,n2,n3,n4,n5,n6⟩:=HA.out w1 HQ1.out;clear hb;go_wp2_with fail;go_ret;exact rB HV HQ1
          |true=>
            replace hW:¬(0:Int)<(WL:Int):=of_decide_eq_false hW;obtain⟨K,hK⟩:∃K,((KL:Int)==2)=K:=⟨_,rfl⟩;rw[hK];go_enter Tryz.func15,Tryz.ntmps15;go_wp2_with fail;obtain⟨v,hv⟩:∃v,w.alloc (.cells #[.string o,.string x,.slice kp KL kc,.slice wp WL wc,.slice pp PL pc,.slice ap AL ac,.slice rp RL rc] 44)=v:=⟨_,rfl⟩;have HV:=yH (show Below w.heap.size w v by rw[←hv];exact HBX.out _);have HA:=yH (show ∀W,Below v.heap.size v W→_ from by rw[←hv];exact HA.out);rw[hv];clear hv;refine(HH.out.rd _ HV.out).mono ?_;rintro e w1 ⟨rfl,hb⟩;have HQ1:=yH hb;obtain⟨n0,n1,n2,n3,n4,n5,n6⟩:=HA.out w1 HQ1.out;clear hb;go_wp2_with fail;go_ret;exact rB HV HQ1
set_option maxHeartbeats 16000000 in
set_option maxRecDepth 100000 in
theorem rone_until {w:World} {o x:ByteArray} {kp wp pp ap rp:Option Addr} {KL WL PL AL RL kc wc pc ac rc:Nat} {RD CM N RS WA PT EA EP EN EW:Bool} (ho:o.toList= [117,110,116,105,108]) (h:OneC w o x kp wp pp ap rp KL WL PL AL RL kc wc pc ac rc RD CM N RS WA PT)
    (hA:decide ((0:Int)<(AL:Int))= !EA) (hP:decide ((0:Int)<(PL:Int))= !EP) (hW:decide ((0:Int)<(WL:Int))= !EW) (hN:x.toList.isEmpty=EN):
    Calls Tryz.prog 15 #[.agg #[.string o,.string x,.slice kp KL kc,.slice wp WL wc,.slice pp PL pc,.slice ap AL ac,.slice rp RL rc]] w fun e w'=>e= .returned (.bool (RD&&(EA&&(EP&&(EN&&(EW&&((KL:Int)==2)))))))∧Below w.heap.size w w':=by
  have q0:(o.toList== [99,109,100])=false:=(by rw[ho];decide);have q1:(o.toList== [115,101,113])=false:=(by rw[ho];decide);have q2:(o.toList== [97,110,100])=false:=(by rw[ho];decide);have q3:(o.toList== [111,114])=false:=(by rw[ho];decide);have q4:(o.toList== [110,111,116])=false:=(by rw[ho];decide);have q5:(o.toList== [112,105,112,101])=false:=(by rw[ho];decide);have q6:(o.toList== [105,102])=false:=(by rw[ho];decide);have q7:(o.toList== [119,104,105,108,101])=false:=(by rw[ho];decide);have q8:(o.toList== [117,110,116,105,108])=true:=(by rw[ho];decide);have q9:(o.toList== [102,111,114])=false:=(by rw[ho];decide);have q10:(o.toList== [99,97,115,101])=false:=(by rw[ho];decide);have q11:(o.toList== [102,117,110])=false:=(by rw[ho];decide);have q12:(o.toList== [103,114,111,117,112])=false:=(by rw[ho];decide);have q13:(o.toList== [115,117,98])=false:=(by rw[ho];decide);have HH:=yH h;have HA:=yH (node_all w o x (.slice kp KL kc) (.slice wp WL wc) (.slice pp PL pc) (.slice ap AL ac) (.slice rp RL rc) 44);have HBX:=yH (fun o=>below_one w o);clear h ho
  cases RD with
  |false=>
    go_enter Tryz.func15,Tryz.ntmps15;go_wp2_with fail;obtain⟨v,hv⟩:∃v,w.alloc (.cells #[.string o,.string x,.slice kp KL kc,.slice wp WL wc,.slice pp PL pc,.slice ap AL ac,.slice rp RL rc] 44)=v:=⟨_,rfl⟩;have HV:=yH (show Below w.heap.size w v by rw[←hv];exact HBX.out _);have HA:=yH (show ∀W,Below v.heap.size v W→_ from by rw[←hv];exact HA.out);rw[hv];clear hv;refine(HH.out.rd _ HV.out).mono ?_;rintro e w1 ⟨rfl,hb⟩;have HQ1:=yH hb;obtain⟨n0,n1,n2,n3,n4,n5,n6⟩:=HA.out w1 HQ1.out;clear hb;go_wp2_with fail;go_ret;exact rB HV HQ1
  |true=>
    cases EA with
    |false=>
      replace hA:(0:Int)<(AL:Int):=of_decide_eq_true hA;go_enter Tryz.func15,Tryz.ntmps15;go_wp2_with fail;obtain⟨v,hv⟩:∃v,w.alloc (.cells #[.string o,.string x,.slice kp KL kc,.slice wp WL wc,.slice pp PL pc,.slice ap AL ac,.slice rp RL rc] 44)=v:=⟨_,rfl⟩;have HV:=yH (show Below w.heap.size w v by rw[←hv];exact HBX.out _);have HA:=yH (show ∀W,Below v.heap.size v W→_ from by rw[←hv];exact HA.out);rw[hv];clear hv;refine(HH.out.rd _ HV.out).mono ?_;rintro e w1 ⟨rfl,hb⟩;have HQ1:=yH hb;obtain⟨n0,n1,n2,n3,n4,n5,n6⟩:=HA.out w1 HQ1.out;clear hb;go_wp2_with fail;go_ret;exact rB HV HQ1
    |true=>
      replace hA:¬(0:Int)<(AL:Int):=of_decide_eq_false hA
      cases EP with
      |false=>
        replace hP:(0:Int)<(PL:Int):=of_decide_eq_true hP;go_enter Tryz.func15,Tryz.ntmps15;go_wp2_with fail;obtain⟨v,hv⟩:∃v,w.alloc (.cells #[.string o,.string x,.slice kp KL kc,.slice wp WL wc,.slice pp PL pc,.slice ap AL ac,.slice rp RL rc] 44)=v:=⟨_,rfl⟩;have HV:=yH (show Below w.heap.size w v by rw[←hv];exact HBX.out _);have HA:=yH (show ∀W,Below v.heap.size v W→_ from by rw[←hv];exact HA.out);rw[hv];clear hv;refine(HH.out.rd _ HV.out).mono ?_;rintro e w1 ⟨rfl,hb⟩;have HQ1:=yH hb;obtain⟨n0,n1,n2,n3,n4,n5,n6⟩:=HA.out w1 HQ1.out;clear hb;go_wp2_with fail;go_ret;exact rB HV HQ1
      |true=>
        replace hP:¬(0:Int)<(PL:Int):=of_decide_eq_false hP
        cases EN with
        |false=>
          go_enter Tryz.func15,Tryz.ntmps15;go_wp2_with fail;obtain⟨v,hv⟩:∃v,w.alloc (.cells #[.string o,.string x,.slice kp KL kc,.slice wp WL wc,.slice pp PL pc,.slice ap AL ac,.slice rp RL rc] 44)=v:=⟨_,rfl⟩;have HV:=yH (show Below w.heap.size w v by rw[←hv];exact HBX.out _);have HA:=yH (show ∀W,Below v.heap.size v W→_ from by rw[←hv];exact HA.out);rw[hv];clear hv;refine(HH.out.rd _ HV.out).mono ?_;rintro e w1 ⟨rfl,hb⟩;have HQ1:=yH hb;obtain⟨n0,n1,n2,n3,n4,n5,n6⟩:=HA.out w1 HQ1.out;clear hb;go_wp2_with fail;go_ret;exact rB HV HQ1
        |true=>
          cases EW with
          |false=>
            replace hW:(0:Int)<(WL:Int):=of_decide_eq_true hW;go_enter Tryz.func15,Tryz.ntmps15;go_wp2_with fail;obtain⟨v,hv⟩:∃v,w.alloc (.cells #[.string o,.string x,.slice kp KL kc,.slice wp WL wc,.slice pp PL pc,.slice ap AL ac,.slice rp RL rc] 44)=v:=⟨_,rfl⟩;have HV:=yH (show Below w.heap.size w v by rw[←hv];exact HBX.out _);have HA:=yH (show ∀W,Below v.heap.size v W→_ from by rw[←hv];exact HA.out);rw[hv];clear hv;refine(HH.out.rd _ HV.out).mono ?_;rintro e w1 ⟨rfl,hb⟩;have HQ1:=yH hb;obtain⟨n0,n1,n2,n3,n4,n5,n6⟩:=HA.out w1 HQ1.out;clear hb;go_wp2_with fail;go_ret;exact rB HV HQ1
          |true=>
            replace hW:¬(0:Int)<(WL:Int):=of_decide_eq_false hW;obtain⟨K,hK⟩:∃K,((KL:Int)==2)=K:=⟨_,rfl⟩;rw[hK];go_enter Tryz.func15,Tryz.ntmps15;go_wp2_with fail;obtain⟨v,hv⟩:∃v,w.alloc (.cells #[.string o,.string x,.slice kp KL kc,.slice wp WL wc,.slice pp PL pc,.slice ap AL ac,.slice rp RL rc] 44)=v:=⟨_,rfl⟩;have HV:=yH (show Below w.heap.size w v by rw[←hv];exact HBX.out _);have HA:=yH (show ∀W,Below v.heap.size v W→_ from by rw[←hv];exact HA.out);rw[hv];clear hv;refine(HH.out.rd _ HV.out).mono ?_;rintro e w1 ⟨rfl,hb⟩;have HQ1:=yH hb;obtain⟨n0,n1,n2,n3,n4,n5,n6⟩:=HA.out w1 HQ1.out;clear hb;go_wp2_with fail;go_ret;exact rB HV HQ1
end Go.Proofs.YtakceggnadagmaaGreatDoor
