/-
  Proved: contracts of functions, plain facts. Conditions: as each says.
-/
import Derived.Test.YtcpmjkefbjbhpaaGreatDoorSw21
import Derived.Test.YtcpmjkefbjbhpaaGreatDoorSw07
namespace Go.Proofs.YtcpmjkefbjbhpaaGreatDoor
open Go Go.RowKit GlyphMath LexMath TreeMath
theorem other_byte (c:UInt8):otherT [c]=(decide (49≤(c.toNat:Int)∧(c.toNat:Int)≤57)||(((c.toNat:Int)==64)||(((c.toNat:Int)==35)||((c.toNat:Int)==63)))):=by
  have h:(List.range 256).all (fun n=>otherT [UInt8.ofNat n]==(decide (49≤(n:Int)∧(n:Int)≤57)||(((n:Int)==64)||(((n:Int)==35)||((n:Int)==63)))))=true:=(by decide+kernel);have h1:=List.all_eq_true.1 h c.toNat (List.mem_range.2 c.toNat_lt);have h2:UInt8.ofNat c.toNat=c:=(by simp);rw[h2]at h1
  simpa using h1
theorem byte_eq (c:UInt8) (k:Nat) (hk:k<256):((c.toNat:Int)==(k:Int))=([c]== [UInt8.ofNat k]):=by
  by_cases h:c=UInt8.ofNat k
  · have e:c.toNat=k:=by rw[h];exact byte_of k hk
    rw[e,h];simp
  · have e:((c.toNat:Int)==(k:Int))=false:=int_ne fun e=>h (by
      apply UInt8.toNat_inj.1
      rw[byte_of k hk];omega)
    rw[e]
    symm
    simpa using h
set_option maxRecDepth 100000 in
theorem tspecial_any (l:List UInt8) (w:World):
    Calls Tryz.prog 120 #[.string (T l)] w fun e w'=>e= .returned (.bool (otherT l))∧w=w':=by
  by_cases h:∃c,l= [c]
  · obtain⟨c,rfl⟩:=h
    have HO:=yH (other_byte c);obtain⟨R,hR⟩:∃R,otherT [c]=R:=⟨_,rfl⟩;rw[hR]at HO ⊢;have hsz:(((T [c]).size:Int)==1)=true:=rfl;have hz:(T [c]).size=1:=rfl;have h0:∀h,(T [c])[0]'h=c:=fun _=>rfl;have e1:((T [c]).toList== [64])=((c.toNat:Int)==64):=(by rw[Lib.toList_data];exact(byte_eq c 64 (by decide)).symm);have e2:((T [c]).toList== [35])=((c.toNat:Int)==35):=(by rw[Lib.toList_data];exact(byte_eq c 35 (by decide)).symm);have e3:((T [c]).toList== [63])=((c.toNat:Int)==63):=(by rw[Lib.toList_data];exact(byte_eq c 63 (by decide)).symm);obtain⟨s,hs⟩:∃s,T [c]=s:=⟨_,rfl⟩;rw[hs]at hsz hz e1 e2 e3 ⊢;have h0:∀h,s[0]'h=c:=(by subst hs;exact h0);clear hs hR;go_enter Tryz.func120,Tryz.ntmps120;go_wp2_with fail
    all_goals
      go_ret;refine⟨ret_bool ?_,rfl⟩;rw[HO.out];refine bool_iff ?_;simp;omega
  · have hl:¬l.length=1:=fun e=>h (by
      match l,e with
      | [c],_=>exact⟨c,rfl⟩)
    have HT:=yH (show otherT l=false by
      match l,h with
      | [],_=>rfl
      | [c],h=>exact absurd ⟨c,rfl⟩ h
      |_::_::_,_=>rfl)
    rw[HT.out];have hsz:(((T l).size:Int)==1)=false:=int_ne (by rw[T_size];omega);show Calls _ _ #[.string (T l)] _ _
    generalize T l=s at hsz ⊢
    clear h hl HT;go_enter Tryz.func120,Tryz.ntmps120;go_wp2_with fail;go_ret;exact⟨rfl,rfl⟩
theorem reck_byte (b:UInt8) (h40:b≠40) (h41:b≠41):reckT b=reckonN b.toNat:=by
  have h:(List.range 256).all (fun n=>(n==40)||((n==41)||(reckT (UInt8.ofNat n)==reckonN n)))=true:=(by decide+kernel);have h1:=List.all_eq_true.1 h b.toNat (List.mem_range.2 b.toNat_lt);have h2:UInt8.ofNat b.toNat=b:=(by simp);rw[h2]at h1;have h3:(b.toNat==40)=false:=beq_eq_false_iff_ne.2 fun e=>h40 (UInt8.toNat_inj.1 e);have h4:(b.toNat==41)=false:=beq_eq_false_iff_ne.2 fun e=>h41 (UInt8.toNat_inj.1 e);rw[h3,h4]at h1
  simpa using h1
set_option maxHeartbeats 1000000 in
set_option maxRecDepth 100000 in
theorem tarith_any (p:Pt) (up:Option Addr) (uc:Nat) (w:World) (hs:p.text.length≤1048576):
    Calls Tryz.prog 80 #[partV p (.slice up p.word.length uc)] w fun e w'=>e= .returned (.bool (p.op.isEmpty&&(p.word.isEmpty&&arithT p.text 0)))∧Below w.heap.size w w':=by
  obtain⟨kd,tx,op,wd,q⟩:=p;have HB:=yH (fun o=>below_one w o);obtain⟨R0,hR0⟩:∃R0,arithT tx 0=R0:=⟨_,rfl⟩;show Calls _ _ #[.agg #[.int .i64 kd,.string (T tx),.string (T op),.slice up wd.length uc,.bool q]] _ fun e w'=>e= .returned (.bool (op.isEmpty&&(wd.isEmpty&&arithT tx 0)))∧_;have HR0:=yH hR0;rw[hR0];have hemp:(T op).toList.isEmpty=op.isEmpty:=(by rw[Lib.toList_data]);have hpos:((wd.length:Int)==0)=wd.isEmpty:=empty_len wd;have HTX:=yH (show(T tx).data.toList=tx from rfl);have hsz:(T tx).size≤1048576:=hs;obtain⟨E,hE⟩:∃E,op.isEmpty=E:=⟨_,rfl⟩;obtain⟨F,hF⟩:∃F,wd.isEmpty=F:=⟨_,rfl⟩;obtain⟨L,hL⟩:∃L,wd.length=L:=⟨_,rfl⟩;rw[hL]at hpos ⊢;rw[hE]at hemp ⊢;rw[hF]at hpos ⊢
  generalize T op=s2 at hemp ⊢
  obtain⟨s,hss⟩:∃s,T tx=s:=⟨_,rfl⟩;rw[hss]at HTX hsz ⊢;have HSZ:=yH hsz;clear hR0 hE hF hL hs hss;go_enter Tryz.func80,Tryz.ntmps80;go_wp2_with fail;obtain⟨w1,hw1⟩:∃w1,w.alloc (.cells #[.int .i64 kd,.string s,.string s2,.slice up L uc,.bool q] 55)=w1:=⟨_,rfl⟩;have HB1:=yH (show Below w.heap.size w w1 by rw[←hw1];exact HB.out _);obtain⟨c0,c1,c2,c3,c4⟩:PC w1 w.heap.size kd s s2 (.slice up L uc) q:=(by rw[←hw1];exact PC.new _ _ _ _ _ _ _);rw[hw1];clear hw1
  go_loopw [3,4] (fun d i wr=> ∃k n:Nat,d= .int .i64 (n:Int)∧i= .int .i64 (k:Int)∧k≤s.size∧n≤k∧arithT (tx.drop k) n=R0∧wr=w1) (fun _ i _=>s.size-(intOf i).toNat)
  case atStart=>exact⟨0,0,rfl,rfl,Nat.zero_le _,Nat.le_refl _,by rw[List.drop_zero];exact HR0.out,rfl⟩
  case round=>
    obtain⟨k,n,rfl,rfl,hk,hn,hr,rfl⟩:=hrel
    by_cases hlt:k<s.size
    · have hj:(k:Int)<(s.size:Int):=by omega
      have hg:tx.drop k=s.get! k::tx.drop (k+1):=(by rw[←HTX.out];exact get_drop s k hlt);rw[hg,arithT,get_is s k hlt]at hr;have HKK:=yH hlt;have HNK:=yH hn;have hn1:(n:Int)+1≤9223372036854775807:=(by omega);have hn0:¬(n:Int)+1<0:=(by omega);have hn2:¬(n:Int)<0:=(by omega)
      by_cases h40:s[k]'hlt=40
      · rw[if_pos h40]at hr
        have hb:((s[k]'hlt).toNat:Int)=40:=(by rw[h40];rfl);have HR:=yH hr;clear hr hg hk hn h40;go_wp2_with fail
        go_roundw
        case rel=>exact⟨k+1,n+1,by go_num,by go_num,HKK.out,by have:=HNK.out;omega,HR.out,trivial⟩
        case measure=>have:=HKK.out;simp[intOf];omega
      · rw[if_neg h40]at hr
        have hb40:(((s[k]'hlt).toNat:Int)==40)=false:=int_ne fun e=>h40 (UInt8.toNat_inj.1 (by show _=40;omega))
        by_cases h41:s[k]'hlt=41
        · rw[if_pos h41]at hr
          have hb:((s[k]'hlt).toNat:Int)=41:=by rw[h41];rfl
          cases n with
          |zero=>
            have HR:=yH (show false=R0 from hr);clear hr hg hk hn h40 h41 hb40 hn0 hn1 hn2;go_wp2_with fail;go_ret;exact⟨ret_bool (by rw[←HR.out];simp),HB1.out⟩
          |succ m=>
            have HR:=yH (show arithT (tx.drop (k+1)) m=R0 from by simpa using hr);obtain⟨M,hM⟩:∃M:Int,((m+1:Nat):Int)=M:=⟨_,rfl⟩;have hMm:M-1=(m:Int):=(by omega);rw[hM];have HM:=yH hMm;have hM1:1≤M:=(by omega);have hM2:¬M-1<0:=(by omega);have hM3:M-1≤9223372036854775807:=(by omega);clear hr hg hk hn h40 h41 hb40 hn0 hn1 hn2 hM hMm;go_wp2_with fail
            go_roundw
            case rel=>exact⟨k+1,m,by rw[←HM.out],by go_num,HKK.out,by have:=HNK.out;omega,HR.out,trivial⟩
            case measure=>have:=HKK.out;simp[intOf];omega
        · rw[if_neg h41,reck_byte _ h40 h41]at hr
          have hb41:(((s[k]'hlt).toNat:Int)==41)=false:=int_ne fun e=>h41 (UInt8.toNat_inj.1 (by show _=41;omega));obtain⟨M,hM⟩:∃M,reckonN (s[k]'hlt).toNat=M:=⟨_,rfl⟩;rw[hM]at hr
          have HM:=yH (show Calls Tryz.prog 121 #[.int .u8 ((s[k]'hlt).toNat:Int)] wr fun e w'=>e= .returned (.bool M)∧wr=w' from by
            have:=rreckon_any (s[k]'hlt).toNat (s[k]'hlt).toNat_lt wr
            rwa [hM]at this)
          have HR:=yH hr;clear hr hg hk hn h40 h41 hM hn0 hn1
          cases M
          · go_wp2_with (go_at_call 121;refine HM.out.mono ?_;rintro e w2 ⟨rfl,rfl⟩)
            go_ret;exact⟨ret_bool (by rw[←HR.out];simp),HB1.out⟩
          · go_wp2_with (go_at_call 121;refine HM.out.mono ?_;rintro e w2 ⟨rfl,rfl⟩)
            go_roundw
            case rel=>exact⟨k+1,n,rfl,by go_num,HKK.out,by have:=HNK.out;omega,by have:=HR.out;rwa [Bool.true_and]at this,trivial⟩
            case measure=>have:=HKK.out;simp[intOf];omega
    · have hj:¬(k:Int)<(s.size:Int):=by omega
      rw[←HTX.out,drop_all s k hlt,arithT]at hr;have HR:=yH hr;clear hr hlt hk hn
      by_cases h0:n=0
      · subst h0
        have HR1:=yH (show true=R0 from HR.out)
        cases E<;>cases F
        all_goals
          go_wp2_with fail;go_ret
          first|exact⟨ret_bool (by rw[←HR1.out]),HB1.out⟩|exact⟨ret_bool (by rw[←HR1.out];rfl),HB1.out⟩|exact⟨ret_bool rfl,HB1.out⟩
      · have hn0:¬(n:Int)=0:=by omega
        have HR1:=yH (show false=R0 from by rw[←HR.out];simp[h0]);clear h0 HR;go_wp2_with fail;go_ret;exact⟨ret_bool (by simp[←HR1.out]),HB1.out⟩
def RPartsDo (k d:Nat) (wi:Bool):Prop:=∀(ps:List Pt) (v:Value) (w:World),PsAt w v ps→Small ps→Tabs w→
  Calls Tryz.prog 36 #[v,.bool wi,.int .i64 (d:Int)] w fun e w'=>e= .returned (.bool (rowT k ps))∧Below w.heap.size w w'
set_option maxHeartbeats 2000000 in
set_option maxRecDepth 100000 in
theorem rparam_in {k d:Nat} (hkd:k+d=20) (hdd:d<20) (hR:RPartsDo k (d+1) true) (p:Pt) (u:Value) (w:World) (hu:PsAt w u p.word) (hw:Small p.word) (hs:p.text.length≤1048576) (hT:Tabs w):
    Calls Tryz.prog 79 #[partV p u,.int .i64 (d:Int)] w fun e w'=>e= .returned (.bool (varT (rowT k) p))∧Below w.heap.size w w':=by
  obtain⟨kd,tx,op,wd,q⟩:=p;obtain⟨a,c,rfl,hlen, -⟩:=hu.is;have HU:=yH (And.intro hu hw);have HN:=yH (fun W (hW:Tabs W)=>rname_any (T tx) W (by show tx.length≤_;simp only at hs;omega) hW);have HT:=yH (fun o=>hT.below (below_one w o));have HO:=yH (fun W=>tspecial_any tx W);have HRW:=yH (fun W (hb:Below w.heap.size w W)=>hR wd _ W (HU.out.1.stays hb) HU.out.2 (hT.below hb));have HB:=yH (fun o=>below_one w o);have hE:=empty_len wd;obtain⟨E,hEE⟩:∃E,wd.isEmpty=E:=⟨_,rfl⟩;obtain⟨N,hN⟩:∃N,nameT tx=N:=⟨_,rfl⟩;obtain⟨O,hO⟩:∃O,otherT tx=O:=⟨_,rfl⟩;obtain⟨W0,hW0⟩:∃W0,rowT k wd=W0:=⟨_,rfl⟩
  have HV:=yH (show varT (rowT k) ⟨kd,tx,op,wd,q⟩=(if N||O then if op= []then E else if op= [35]then N&&E else if op= [58,61]then N&&W0 else if op= [58,45]then W0 else if op= [58,43]then W0 else false else false)from by
    rw[←hEE,←hN,←hO,←hW0];rfl)
  have HN:=yH (show ∀W,Tabs W→Calls Tryz.prog 46 #[.string (T tx)] W fun e w'=>e= .returned (.bool N)∧Below W.heap.size W w' from by rw[←hN];exact HN.out);have HO:=yH (show ∀W,Calls Tryz.prog 120 #[.string (T tx)] W fun e w'=>e= .returned (.bool O)∧W=w' from by rw[←hO];exact HO.out);rw[hEE]at hE;have HRW:=yH (show ∀W,Below w.heap.size w W→Calls Tryz.prog 36 #[.slice a wd.length c,.bool true,.int .i64 ((d:Int)+1)] W fun e w'=>e= .returned (.bool W0)∧Below W.heap.size W w' from by rw[←hW0];exact HRW.out);obtain⟨R,hR⟩:∃R,varT (rowT k) ⟨kd,tx,op,wd,q⟩=R:=⟨_,rfl⟩;have HV:=yH (hR.symm.trans HV.out);have hd1:(d:Int)+1≤21:=(by omega);have hd2:(d:Int)<20:=(by omega);obtain⟨L,hL⟩:∃L,wd.length=L:=⟨_,rfl⟩;show Calls _ _ #[.agg #[.int .i64 kd,.string (T tx),.string (T op),.slice a wd.length c,.bool q],_] _ _;rw[hL]at hE HRW ⊢;rw[hR];obtain⟨s,hss⟩:∃s,T tx=s:=⟨_,rfl⟩;rw[hss]at HN HO ⊢;clear HU hW0 hN hO hEE hR hu hw hlen hs hss hL hT hdd hkd
  by_cases h0:op= []
  · have HVc:=yH (show R=(if N||O then E else false)from by rw[HV.out,if_pos h0])
    obtain⟨o,ho⟩:∃o,T op=o:=⟨_,rfl⟩;have b0:o.toList.isEmpty=true:=(by rw[←ho,Lib.toList_data];exact(by rw[h0];rfl));rw[ho];clear ho h0 HV
    cases N<;>cases O
    all_goals
      go_enter Tryz.func79,Tryz.ntmps79
      go_wp2_with (first
          |(go_at_call 46;refine(HN.out _ (HT.out _)).mono ?_;rintro e w1 ⟨rfl,hb⟩;obtain⟨c0,c1,c2,c3,c4⟩:=(PC.new w kd _ _ _ q 55).below hb;have HB1:=yH ((HB.out _).trans (hb.mono (HB.out _).size));clear hb)
          |(go_at_call 120;refine(HO.out _).mono ?_;rintro e w2 ⟨rfl,rfl⟩)
          |(go_at_call 36;refine(HRW.out _ HB1.out).mono ?_;rintro e w3 ⟨rfl,hb⟩;have HB2:=yH (HB1.out.trans (hb.mono HB1.out.size));clear hb))
      go_ret
      first|exact⟨ret_bool HVc.out.symm,HB2.out⟩|exact⟨ret_bool HVc.out.symm,HB1.out⟩
  · skip
    by_cases h1:op= [35]
    · have HVc:=yH (show R=(if N||O then N&&E else false)from by rw[HV.out,if_neg h0,if_pos h1])
      obtain⟨o,ho⟩:∃o,T op=o:=⟨_,rfl⟩;have b0:o.toList.isEmpty=false:=(by rw[←ho,Lib.toList_data];exact nil_ne h0);have b1:(o.toList== [35])=true:=(by rw[←ho,Lib.toList_data];exact(by rw[h1];rfl));rw[ho];clear ho h0 h1 HV
      cases N<;>cases O
      all_goals
        go_enter Tryz.func79,Tryz.ntmps79
        go_wp2_with (first
          |(go_at_call 46;refine(HN.out _ (HT.out _)).mono ?_;rintro e w1 ⟨rfl,hb⟩;obtain⟨c0,c1,c2,c3,c4⟩:=(PC.new w kd _ _ _ q 55).below hb;have HB1:=yH ((HB.out _).trans (hb.mono (HB.out _).size));clear hb)
          |(go_at_call 120;refine(HO.out _).mono ?_;rintro e w2 ⟨rfl,rfl⟩)
          |(go_at_call 36;refine(HRW.out _ HB1.out).mono ?_;rintro e w3 ⟨rfl,hb⟩;have HB2:=yH (HB1.out.trans (hb.mono HB1.out.size));clear hb))
        go_ret
        first|exact⟨ret_bool HVc.out.symm,HB2.out⟩|exact⟨ret_bool HVc.out.symm,HB1.out⟩
    · skip
      by_cases h2:op= [58,61]
      · have HVc:=yH (show R=(if N||O then N&&W0 else false)from by rw[HV.out,if_neg h0,if_neg h1,if_pos h2])
        obtain⟨o,ho⟩:∃o,T op=o:=⟨_,rfl⟩;have b0:o.toList.isEmpty=false:=(by rw[←ho,Lib.toList_data];exact nil_ne h0);have b1:(o.toList== [35])=false:=(by rw[←ho,Lib.toList_data];exact list_ne h1);have b2:(o.toList== [58,61])=true:=(by rw[←ho,Lib.toList_data];exact(by rw[h2];rfl));rw[ho];clear ho h0 h1 h2 HV
        cases N<;>cases O
        all_goals
          go_enter Tryz.func79,Tryz.ntmps79
          go_wp2_with (first
          |(go_at_call 46;refine(HN.out _ (HT.out _)).mono ?_;rintro e w1 ⟨rfl,hb⟩;obtain⟨c0,c1,c2,c3,c4⟩:=(PC.new w kd _ _ _ q 55).below hb;have HB1:=yH ((HB.out _).trans (hb.mono (HB.out _).size));clear hb)
          |(go_at_call 120;refine(HO.out _).mono ?_;rintro e w2 ⟨rfl,rfl⟩)
          |(go_at_call 36;refine(HRW.out _ HB1.out).mono ?_;rintro e w3 ⟨rfl,hb⟩;have HB2:=yH (HB1.out.trans (hb.mono HB1.out.size));clear hb))
          go_ret
          first|exact⟨ret_bool HVc.out.symm,HB2.out⟩|exact⟨ret_bool HVc.out.symm,HB1.out⟩
      · skip
        by_cases h3:op= [58,45]
        · have HVc:=yH (show R=(if N||O then W0 else false)from by rw[HV.out,if_neg h0,if_neg h1,if_neg h2,if_pos h3])
          obtain⟨o,ho⟩:∃o,T op=o:=⟨_,rfl⟩;have b0:o.toList.isEmpty=false:=(by rw[←ho,Lib.toList_data];exact nil_ne h0);have b1:(o.toList== [35])=false:=(by rw[←ho,Lib.toList_data];exact list_ne h1);have b2:(o.toList== [58,61])=false:=(by rw[←ho,Lib.toList_data];exact list_ne h2);have b3:(o.toList== [58,45])=true:=(by rw[←ho,Lib.toList_data];exact(by rw[h3];rfl));rw[ho];clear ho h0 h1 h2 h3 HV
          cases N<;>cases O
          all_goals
            go_enter Tryz.func79,Tryz.ntmps79
            go_wp2_with (first
          |(go_at_call 46;refine(HN.out _ (HT.out _)).mono ?_;rintro e w1 ⟨rfl,hb⟩;obtain⟨c0,c1,c2,c3,c4⟩:=(PC.new w kd _ _ _ q 55).below hb;have HB1:=yH ((HB.out _).trans (hb.mono (HB.out _).size));clear hb)
          |(go_at_call 120;refine(HO.out _).mono ?_;rintro e w2 ⟨rfl,rfl⟩)
          |(go_at_call 36;refine(HRW.out _ HB1.out).mono ?_;rintro e w3 ⟨rfl,hb⟩;have HB2:=yH (HB1.out.trans (hb.mono HB1.out.size));clear hb))
            go_ret
            first|exact⟨ret_bool HVc.out.symm,HB2.out⟩|exact⟨ret_bool HVc.out.symm,HB1.out⟩
        · skip
          by_cases h4:op= [58,43]
          · have HVc:=yH (show R=(if N||O then W0 else false)from by rw[HV.out,if_neg h0,if_neg h1,if_neg h2,if_neg h3,if_pos h4])
            obtain⟨o,ho⟩:∃o,T op=o:=⟨_,rfl⟩;have b0:o.toList.isEmpty=false:=(by rw[←ho,Lib.toList_data];exact nil_ne h0);have b1:(o.toList== [35])=false:=(by rw[←ho,Lib.toList_data];exact list_ne h1);have b2:(o.toList== [58,61])=false:=(by rw[←ho,Lib.toList_data];exact list_ne h2);have b3:(o.toList== [58,45])=false:=(by rw[←ho,Lib.toList_data];exact list_ne h3);have b4:(o.toList== [58,43])=true:=(by rw[←ho,Lib.toList_data];exact(by rw[h4];rfl));rw[ho];clear ho h0 h1 h2 h3 h4 HV
            cases N<;>cases O
            all_goals
              go_enter Tryz.func79,Tryz.ntmps79
              go_wp2_with (first
          |(go_at_call 46;refine(HN.out _ (HT.out _)).mono ?_;rintro e w1 ⟨rfl,hb⟩;obtain⟨c0,c1,c2,c3,c4⟩:=(PC.new w kd _ _ _ q 55).below hb;have HB1:=yH ((HB.out _).trans (hb.mono (HB.out _).size));clear hb)
          |(go_at_call 120;refine(HO.out _).mono ?_;rintro e w2 ⟨rfl,rfl⟩)
          |(go_at_call 36;refine(HRW.out _ HB1.out).mono ?_;rintro e w3 ⟨rfl,hb⟩;have HB2:=yH (HB1.out.trans (hb.mono HB1.out.size));clear hb))
              go_ret
              first|exact⟨ret_bool HVc.out.symm,HB2.out⟩|exact⟨ret_bool HVc.out.symm,HB1.out⟩
          · have HVc:=yH (show R=(if N||O then false else false)from by rw[HV.out,if_neg h0,if_neg h1,if_neg h2,if_neg h3,if_neg h4])
            obtain⟨o,ho⟩:∃o,T op=o:=⟨_,rfl⟩;have b0:o.toList.isEmpty=false:=(by rw[←ho,Lib.toList_data];exact nil_ne h0);have b1:(o.toList== [35])=false:=(by rw[←ho,Lib.toList_data];exact list_ne h1);have b2:(o.toList== [58,61])=false:=(by rw[←ho,Lib.toList_data];exact list_ne h2);have b3:(o.toList== [58,45])=false:=(by rw[←ho,Lib.toList_data];exact list_ne h3);have b4:(o.toList== [58,43])=false:=(by rw[←ho,Lib.toList_data];exact list_ne h4);rw[ho];clear ho h0 h1 h2 h3 h4 HV
            cases N<;>cases O
            all_goals
              go_enter Tryz.func79,Tryz.ntmps79
              go_wp2_with (first
          |(go_at_call 46;refine(HN.out _ (HT.out _)).mono ?_;rintro e w1 ⟨rfl,hb⟩;obtain⟨c0,c1,c2,c3,c4⟩:=(PC.new w kd _ _ _ q 55).below hb;have HB1:=yH ((HB.out _).trans (hb.mono (HB.out _).size));clear hb)
          |(go_at_call 120;refine(HO.out _).mono ?_;rintro e w2 ⟨rfl,rfl⟩)
          |(go_at_call 36;refine(HRW.out _ HB1.out).mono ?_;rintro e w3 ⟨rfl,hb⟩;have HB2:=yH (HB1.out.trans (hb.mono HB1.out.size));clear hb))
              go_ret
              first|exact⟨ret_bool HVc.out.symm,HB2.out⟩|exact⟨ret_bool HVc.out.symm,HB1.out⟩
set_option maxHeartbeats 2000000 in
set_option maxRecDepth 100000 in
theorem rparam_end (p:Pt) (u:Value) (w:World) (hu:PsAt w u p.word) (hs:p.text.length≤1048576) (hT:Tabs w):
    Calls Tryz.prog 79 #[partV p u,.int .i64 20] w fun e w'=>e= .returned (.bool (varT (rowT 0) p))∧Below w.heap.size w w':=by
  obtain⟨kd,tx,op,wd,q⟩:=p;obtain⟨a,c,rfl,hlen, -⟩:=hu.is;have HN:=yH (fun W (hW:Tabs W)=>rname_any (T tx) W (by show tx.length≤_;simp only at hs;omega) hW);have HT:=yH (fun o=>hT.below (below_one w o));have HO:=yH (fun W=>tspecial_any tx W);have HB:=yH (fun o=>below_one w o);have hE:=empty_len wd;obtain⟨E,hEE⟩:∃E,wd.isEmpty=E:=⟨_,rfl⟩;obtain⟨N,hN⟩:∃N,nameT tx=N:=⟨_,rfl⟩;obtain⟨O,hO⟩:∃O,otherT tx=O:=⟨_,rfl⟩
  have HV:=yH (show varT (rowT 0) ⟨kd,tx,op,wd,q⟩=(if N||O then if op= []then E else if op= [35]then N&&E else if op= [58,61]then N&&false else if op= [58,45]then false else if op= [58,43]then false else false else false)from by
    rw[←hEE,←hN,←hO];rfl)
  have HN:=yH (show ∀W,Tabs W→Calls Tryz.prog 46 #[.string (T tx)] W fun e w'=>e= .returned (.bool N)∧Below W.heap.size W w' from by rw[←hN];exact HN.out);have HO:=yH (show ∀W,Calls Tryz.prog 120 #[.string (T tx)] W fun e w'=>e= .returned (.bool O)∧W=w' from by rw[←hO];exact HO.out);rw[hEE]at hE;obtain⟨R,hR⟩:∃R,varT (rowT 0) ⟨kd,tx,op,wd,q⟩=R:=⟨_,rfl⟩;have HV:=yH (hR.symm.trans HV.out);obtain⟨L,hL⟩:∃L,wd.length=L:=⟨_,rfl⟩;show Calls _ _ #[.agg #[.int .i64 kd,.string (T tx),.string (T op),.slice a wd.length c,.bool q],_] _ _;rw[hL]at hE ⊢;rw[hR];obtain⟨s,hss⟩:∃s,T tx=s:=⟨_,rfl⟩;rw[hss]at HN HO ⊢;clear hN hO hEE hR hu hlen hs hss hL hT
  by_cases h0:op= []
  · have HVc:=yH (show R=(if N||O then E else false)from by rw[HV.out,if_pos h0])
    obtain⟨o,ho⟩:∃o,T op=o:=⟨_,rfl⟩;have b0:o.toList.isEmpty=true:=(by rw[←ho,Lib.toList_data];exact(by rw[h0];rfl));rw[ho];clear ho h0 HV
    cases N<;>cases O
    all_goals
      go_enter Tryz.func79,Tryz.ntmps79
      go_wp2_with (first
          |(go_at_call 46;refine(HN.out _ (HT.out _)).mono ?_;rintro e w1 ⟨rfl,hb⟩;obtain⟨c0,c1,c2,c3,c4⟩:=(PC.new w kd _ _ _ q 55).below hb;have HB1:=yH ((HB.out _).trans (hb.mono (HB.out _).size));clear hb)
          |(go_at_call 120;refine(HO.out _).mono ?_;rintro e w2 ⟨rfl,rfl⟩))
      go_ret;exact⟨ret_bool HVc.out.symm,HB1.out⟩
  · skip
    by_cases h1:op= [35]
    · have HVc:=yH (show R=(if N||O then N&&E else false)from by rw[HV.out,if_neg h0,if_pos h1])
      obtain⟨o,ho⟩:∃o,T op=o:=⟨_,rfl⟩;have b0:o.toList.isEmpty=false:=(by rw[←ho,Lib.toList_data];exact nil_ne h0);have b1:(o.toList== [35])=true:=(by rw[←ho,Lib.toList_data];exact(by rw[h1];rfl));rw[ho];clear ho h0 h1 HV
      cases N<;>cases O
      all_goals
        go_enter Tryz.func79,Tryz.ntmps79
        go_wp2_with (first
          |(go_at_call 46;refine(HN.out _ (HT.out _)).mono ?_;rintro e w1 ⟨rfl,hb⟩;obtain⟨c0,c1,c2,c3,c4⟩:=(PC.new w kd _ _ _ q 55).below hb;have HB1:=yH ((HB.out _).trans (hb.mono (HB.out _).size));clear hb)
          |(go_at_call 120;refine(HO.out _).mono ?_;rintro e w2 ⟨rfl,rfl⟩))
        go_ret;exact⟨ret_bool HVc.out.symm,HB1.out⟩
    · skip
      by_cases h2:op= [58,61]
      · have HVc:=yH (show R=(if N||O then N&&false else false)from by rw[HV.out,if_neg h0,if_neg h1,if_pos h2])
        obtain⟨o,ho⟩:∃o,T op=o:=⟨_,rfl⟩;have b0:o.toList.isEmpty=false:=(by rw[←ho,Lib.toList_data];exact nil_ne h0);have b1:(o.toList== [35])=false:=(by rw[←ho,Lib.toList_data];exact list_ne h1);have b2:(o.toList== [58,61])=true:=(by rw[←ho,Lib.toList_data];exact(by rw[h2];rfl));rw[ho];clear ho h0 h1 h2 HV
        cases N<;>cases O
        all_goals
          go_enter Tryz.func79,Tryz.ntmps79
          go_wp2_with (first
          |(go_at_call 46;refine(HN.out _ (HT.out _)).mono ?_;rintro e w1 ⟨rfl,hb⟩;obtain⟨c0,c1,c2,c3,c4⟩:=(PC.new w kd _ _ _ q 55).below hb;have HB1:=yH ((HB.out _).trans (hb.mono (HB.out _).size));clear hb)
          |(go_at_call 120;refine(HO.out _).mono ?_;rintro e w2 ⟨rfl,rfl⟩))
          go_ret;exact⟨ret_bool HVc.out.symm,HB1.out⟩
      · skip
        by_cases h3:op= [58,45]
        · have HVc:=yH (show R=(if N||O then false else false)from by rw[HV.out,if_neg h0,if_neg h1,if_neg h2,if_pos h3])
          obtain⟨o,ho⟩:∃o,T op=o:=⟨_,rfl⟩;have b0:o.toList.isEmpty=false:=(by rw[←ho,Lib.toList_data];exact nil_ne h0);have b1:(o.toList== [35])=false:=(by rw[←ho,Lib.toList_data];exact list_ne h1);have b2:(o.toList== [58,61])=false:=(by rw[←ho,Lib.toList_data];exact list_ne h2);have b3:(o.toList== [58,45])=true:=(by rw[←ho,Lib.toList_data];exact(by rw[h3];rfl));rw[ho];clear ho h0 h1 h2 h3 HV
          cases N<;>cases O
          all_goals
            go_enter Tryz.func79,Tryz.ntmps79
            go_wp2_with (first
          |(go_at_call 46;refine(HN.out _ (HT.out _)).mono ?_;rintro e w1 ⟨rfl,hb⟩;obtain⟨c0,c1,c2,c3,c4⟩:=(PC.new w kd _ _ _ q 55).below hb;have HB1:=yH ((HB.out _).trans (hb.mono (HB.out _).size));clear hb)
          |(go_at_call 120;refine(HO.out _).mono ?_;rintro e w2 ⟨rfl,rfl⟩))
            go_ret;exact⟨ret_bool HVc.out.symm,HB1.out⟩
        · skip
          by_cases h4:op= [58,43]
          · have HVc:=yH (show R=(if N||O then false else false)from by rw[HV.out,if_neg h0,if_neg h1,if_neg h2,if_neg h3,if_pos h4])
            obtain⟨o,ho⟩:∃o,T op=o:=⟨_,rfl⟩;have b0:o.toList.isEmpty=false:=(by rw[←ho,Lib.toList_data];exact nil_ne h0);have b1:(o.toList== [35])=false:=(by rw[←ho,Lib.toList_data];exact list_ne h1);have b2:(o.toList== [58,61])=false:=(by rw[←ho,Lib.toList_data];exact list_ne h2);have b3:(o.toList== [58,45])=false:=(by rw[←ho,Lib.toList_data];exact list_ne h3);have b4:(o.toList== [58,43])=true:=(by rw[←ho,Lib.toList_data];exact(by rw[h4];rfl));rw[ho];clear ho h0 h1 h2 h3 h4 HV
            cases N<;>cases O
            all_goals
              go_enter Tryz.func79,Tryz.ntmps79
              go_wp2_with (first
          |(go_at_call 46;refine(HN.out _ (HT.out _)).mono ?_;rintro e w1 ⟨rfl,hb⟩;obtain⟨c0,c1,c2,c3,c4⟩:=(PC.new w kd _ _ _ q 55).below hb;have HB1:=yH ((HB.out _).trans (hb.mono (HB.out _).size));clear hb)
          |(go_at_call 120;refine(HO.out _).mono ?_;rintro e w2 ⟨rfl,rfl⟩))
              go_ret;exact⟨ret_bool HVc.out.symm,HB1.out⟩
          · have HVc:=yH (show R=(if N||O then false else false)from by rw[HV.out,if_neg h0,if_neg h1,if_neg h2,if_neg h3,if_neg h4])
            obtain⟨o,ho⟩:∃o,T op=o:=⟨_,rfl⟩;have b0:o.toList.isEmpty=false:=(by rw[←ho,Lib.toList_data];exact nil_ne h0);have b1:(o.toList== [35])=false:=(by rw[←ho,Lib.toList_data];exact list_ne h1);have b2:(o.toList== [58,61])=false:=(by rw[←ho,Lib.toList_data];exact list_ne h2);have b3:(o.toList== [58,45])=false:=(by rw[←ho,Lib.toList_data];exact list_ne h3);have b4:(o.toList== [58,43])=false:=(by rw[←ho,Lib.toList_data];exact list_ne h4);rw[ho];clear ho h0 h1 h2 h3 h4 HV
            cases N<;>cases O
            all_goals
              go_enter Tryz.func79,Tryz.ntmps79
              go_wp2_with (first
          |(go_at_call 46;refine(HN.out _ (HT.out _)).mono ?_;rintro e w1 ⟨rfl,hb⟩;obtain⟨c0,c1,c2,c3,c4⟩:=(PC.new w kd _ _ _ q 55).below hb;have HB1:=yH ((HB.out _).trans (hb.mono (HB.out _).size));clear hb)
          |(go_at_call 120;refine(HO.out _).mono ?_;rintro e w2 ⟨rfl,rfl⟩))
              go_ret;exact⟨ret_bool HVc.out.symm,HB1.out⟩
end Go.Proofs.YtcpmjkefbjbhpaaGreatDoor
