/-
  Proved: contracts of functions, plain facts. Conditions: as each says.
-/
import Derived.Test.YtcpmjkefbjbhpaaGreatDoorSw46
import Derived.Test.YtcpmjkefbjbhpaaGreatDoorSw32
import Derived.Test.YtcpmjkefbjbhpaaGreatDoorSw47
import Derived.Test.YtcpmjkefbjbhpaaGreatDoorSw49
import Derived.Test.YtcpmjkefbjbhpaaGreatDoorSw01
import Derived.Test.YtcpmjkefbjbhpaaGreatDoorSw48
import Derived.Test.YtcpmjkefbjbhpaaGreatDoorSw18
import Derived.Test.YtcpmjkefbjbhpaaGreatDoorSwArg
import Derived.Deep.DeepHandedRow
namespace Go.Proofs.YtcpmjkefbjbhpaaGreatDoor
open Go Go.RowKit GlyphMath LexMath TreeMath ParseMath ShowMath
def tkA (b:UInt8) (n:Nat):Tk:=⟨1,[],[⟨1,[b],[],[],false⟩],n⟩
def kabT:List Tk:= [tkA 97 0,⟨2,[59],[],1⟩,tkA 98 2,⟨3,[],[],3⟩]
def kabC (b:UInt8):Tr:= .mk { nd0 with op:= [99,109,100],words:= [[⟨1,[b],[],[],false⟩]] } []
def kabN:List Nd:= [{ nd0 with op:= [115,101,113],kids:= [1,2] },{ nd0 with op:= [99,109,100],words:= [[⟨1,[97],[],[],false⟩]] },{ nd0 with op:= [99,109,100],words:= [[⟨1,[98],[],[],false⟩]] }]
def kabB:ByteArray:=⟨#[97,59,98]⟩
abbrev kS (k:Nat):PS:=⟨kabT.drop k,0,0⟩
theorem kab_tok:tokB kabB= .ok kabT:=by
  have h1:isText kabB=true:=(by unfold isText;rw[firstBad_low kabB (by decide)];rfl);unfold tokB;rw[if_neg (by decide),if_neg (by rw[h1];decide),letters_low kabB (by decide)];rfl
theorem kab_s0:simpleM (kS 0)=(kabC 97,kS 1):=rfl
theorem kab_s2:simpleM (kS 2)=(kabC 98,kS 3):=rfl
theorem kab_list:listM (lv 20).cmd ⟨kabT,0,0⟩=(trOf [115,101,113] [kabC 97,kabC 98],kS 3):=by kernel_rfl
theorem kab_laid:parseM kabT= .ok kabN:=by kernel_rfl
theorem kab_simple {w0:World} (hT:Tabs w0) {X:Nat} {S S':PS} {t:Tr} (hm:simpleM S=(t,S')) (he:S'.err=0):∀W,Rr w0 W X S→Calls Tryz.prog 181 #[.pointer (some ⟨X,0,none⟩)] W fun e w'=>TrAt w0 W w' e X t S':=fun W hW=>by
  refine(qsimple_any hT W X S hW).mono fun e w' ⟨t',h1,h2⟩=> ?_;rw[hm]at h1 h2;rw[h2 he]at h1;exact h1
theorem kab_parse (w:World) (hT:Tabs w):Calls Tryz.prog 12 #[.string kabB] w fun e w'=> ∃p c,e= .returned (.tuple #[.agg #[.slice p 3 c,.int .i64 0],.int .i64 3,.int .i64 0])∧NsAt w' (.slice p 3 c) kabN∧Below w.heap.size w w':=by
  refine(qparse_ok kabB w (hT.below (below_new w _)) kab_tok fun w2 h2 W X h=> ?_).mono fun e w' h=> ?_
  · have c1:=kcommand h2 (X:=X) (S:=kS 0) (S':=kS 1) (t:=kabC 97) (nm:= [97]) rfl rfl rfl (by decide) (.inr ⟨rfl,by decide⟩) (by decide) rfl (kab_simple h2 kab_s0 rfl)
    have c2:=kcommand h2 (X:=X) (S:=kS 2) (S':=kS 3) (t:=kabC 98) (nm:= [98]) rfl rfl rfl (by decide) (.inl rfl) (by decide) rfl (kab_simple h2 kab_s2 rfl);have a1:=kandor (kpipe c1 (by decide) (by decide)) rfl (by decide) (by decide);have a2:=kandor (kpipe c2 (by decide) (by decide)) rfl (by decide) (by decide);have hl:=klist (S:=kS 0) (S1:=kS 1) (S2:=kS 2) (S3:=kS 3) rfl a1 rfl (by decide) rfl (by decide) a2 (by decide) (by decide) rfl (by decide) (by decide);refine(hl W h).mono fun e w' h=>⟨_,_,h,?_,fun _=> ?_⟩
    · rw[kab_list];exact RelL.refl _
    · rw[kab_list]
  · unfold PaEnd parseB at h
    rw[kab_tok]at h;simp only[kab_laid]at h;obtain⟨v,rfl,⟨p,c,rfl⟩,hn,hb⟩:=h;exact⟨p,c,rfl,hn (by decide),hb⟩
theorem kab_is:isT kabN 0=true:=by decide+kernel
theorem kab_text:textS kabN= [97,59,32,98]:=by decide+kernel
theorem kab_word (b:UInt8):Small [⟨1,[b],[],[],false⟩]:= .mk _ (fun q hq=>by rw[List.mem_singleton.1 hq];show 1≤1048576;decide) fun q hq=>by rw[List.mem_singleton.1 hq];exact Small.nil
theorem kab_cmd (b:UInt8):NSmall { nd0 with op:= [99,109,100],words:= [[⟨1,[b],[],[],false⟩]] } :=⟨(fun y hy=>by rw[List.mem_singleton.1 hy];exact kab_word b),(fun _ h=>by cases h),(fun _ h=>by cases h),(fun _ h=>by cases h),Nat.zero_le _,(fun _ h=>by cases h)⟩
theorem kab_small:∀n∈kabN,NSmall n:=by
  intro n hn
  rcases List.mem_cons.1 hn with rfl|hn
  · exact⟨(fun _ h=>by cases h),(fun _ h=>by cases h),(fun _ h=>by cases h),(fun _ h=>by cases h),Nat.zero_le _,(fun _ h=>by cases h)⟩
  · rcases List.mem_cons.1 hn with rfl|hn
    · exact kab_cmd 97
    · rw[List.mem_singleton.1 hn];exact kab_cmd 98
set_option maxHeartbeats 2000000 in
set_option maxRecDepth 100000 in
theorem kab_known (w:World) (hT:Tabs w) (hS:Shapes w) (hF:Frames w):Calls Tryz.prog 19 #[] w fun e w'=>e= .returned (.bool true)∧Below w.heap.size w w':=by
  have HP:=yH (show Calls Tryz.prog 12 #[.string ⟨#[97,59,98]⟩] w _ from kab_parse w hT);have HSF:=yH (And.intro hS hF)
  have HT:=yH (fun (p:Option Addr) (c:Nat) (W:World) (hn:NsAt W (.slice p 3 c) kabN) (h1:Shapes W) (h2:Frames W)=>show Calls Tryz.prog 15 #[.agg #[.slice p 3 c,.int .i64 0]] W fun e w'=>e= .returned (.string ⟨#[97,59,32,98]⟩)∧Below W.heap.size W w' from by
    have:=show_text kabN 0 p c W hn h1 h2 kab_small kab_is (by rw[kab_text];decide);rw[kab_text]at this
    exact this)
  clear hT hS hF;go_enter Tryz.func19,Tryz.ntmps19
  go_wp2_with (first
    |(go_at_call 12;refine HP.out.mono ?_;rintro e w1 ⟨p,c,rfl,hn,hb⟩;have H1:=yH (And.intro hn hb);clear hn hb)
    |(go_at_call 15;refine(HT.out _ _ _ (H1.out.1.below (below_one w1 _)) ((HSF.out.1.below H1.out.2).below (below_one w1 _)) ((HSF.out.2.below H1.out.2).below (below_one w1 _))).mono ?_;rintro e w2 ⟨rfl,hb⟩;have H2:=yH ((H1.out.2.trans ((below_one w1 _).mono H1.out.2.size)).trans (hb.mono (by have:=H1.out.2.size;simp;omega)));clear hb))
  go_ret;exact⟨rfl,H2.out⟩
end Go.Proofs.YtcpmjkefbjbhpaaGreatDoor
namespace Go.Proofs.YtcpmjkefbjbhpaaGreatDoor
open Go Go.RowKit GlyphMath LexMath TreeMath ShowMath
theorem box_cell (w:World) (v:Value) (t:TypeId):∀W,Below (w.alloc (.cells #[v] t)).heap.size (w.alloc (.cells #[v] t)) W→W.cell? ⟨w.heap.size,0,none⟩=some v:=fun W hb=>by
  rw[hb.cell (p:=⟨w.heap.size,0,none⟩) (by simp)];exact cell_plain (heap_alloc_new w _) 0
theorem below_nothing (B:Nat) (w:World) (n:Nat):Below B w (w.drewN n):=⟨rfl,rfl,rfl,Nat.le_refl _,fun _ _=>rfl⟩
theorem cut_two (t:List UInt8):(⟨([97,61]++t).toArray⟩:ByteArray).extract 2 (⟨([97,61]++t).toArray⟩:ByteArray).size=⟨t.toArray⟩:=by
  apply ByteArray.ext;rw[ByteArray.data_extract];show([97,61]++t).toArray.extract 2 ([97,61]++t).toArray.size=_;simp
theorem below_set {B:Nat} {a b:World} (h:Below B a b) {g o:Nat} (hg:B≤g) (x:Value):Below B a (b.setCell ⟨g,o,none⟩ x):=
  ⟨h.os,h.tape,h.output,by have:=h.size;simpa [World.setCell]using this,fun k hk=>(Below.heap_setCell b ⟨g,o,none⟩ x k (by show k≠g;omega)).trans (h.block k hk)⟩
set_option maxHeartbeats 2000000 in
set_option maxRecDepth 100000 in
theorem words_law (ps:List Pt) (v:Value) (w:World) (hv:PsAt w v ps) (hs:Small ps) (hL:(wordS ps).length≤BigW) (hT:Tabs w) (hS:Shapes w) (hF:Frames w):
    Calls Tryz.prog 8 #[wordV v] w fun e w'=>e= .returned (.bool true)∧Below w.heap.size w w':=by
  have HBX:=yH (fun o=>below_one w o);have HW:=yH (fun W (hb:Below w.heap.size w W)=>rword_any ps v W (hv.stays hb) hs (hT.below hb));have HK:=yH (fun W (hb:Below w.heap.size w W)=>kab_known W (hT.below hb) (hS.below hb) (hF.below hb));have HSW:=yH (fun (hi:wordT ps=true) W (hb:Below w.heap.size w W)=>show_word ps v W (hv.stays hb) hs hi hL);have HP:=yH (fun W (hb:Below w.heap.size w W)=>hv.stays hb);have HT:=yH (fun W (hb:Below w.heap.size w W)=>hT.below hb);have HSM:=yH hs;obtain⟨p,c,hvp,hmx, -⟩:=hv.is;obtain⟨L,hLn⟩:∃L,ps.length=L:=⟨_,rfl⟩;rw[hLn]at hvp hmx;subst hvp;clear hv hs hL hT hS hF hLn hmx;unfold wordV at HW HSW ⊢;have HPC:=yH (box_cell w (.slice p L c) 45);go_enter Tryz.func8,Tryz.ntmps8;go_wp2_with fail;obtain⟨v,hv⟩:∃v,w.alloc (.cells #[.slice p L c] 45)=v:=⟨_,rfl⟩;have HV:=yH (show Below w.heap.size w v by rw[←hv];exact HBX.out _);have HPC:=yH (show ∀W,Below v.heap.size v W→W.cell? ⟨w.heap.size,0,none⟩=some (.slice p L c) by rw[←hv];exact HPC.out);have HLT:=yH (show w.heap.size<v.heap.size by rw[←hv];simp);rw[hv];clear hv;refine(HW.out _ HV.out).mono ?_;rintro e w1 ⟨rfl,hb⟩;have c1:=HPC.out w1 hb;have HQ1:=yH (HV.out.trans (hb.mono HV.out.size));have HB1:=yH hb;clear hb
  cases hR:wordT ps with
  |false=>
    clear HK HSW HP HT HPC;go_wp2_with fail;go_ret;exact⟨rfl,HQ1.out⟩
  |true=>
    have HSW:=yH (HSW.out hR);have HRT:=yH hR;clear HW hR
    by_cases hl:(30:Int)<(L:Int)
    · clear HK HSW HP HT HPC HRT
      go_wp2_with fail;go_ret;exact⟨rfl,HQ1.out⟩
    go_wp2_with fail;refine(HSW.out _ HQ1.out).mono ?_;rintro e w2 ⟨rfl,hb⟩;have c2:=HPC.out w2 (HB1.out.trans (hb.mono HB1.out.size));have HQ2:=yH (HQ1.out.trans (hb.mono HQ1.out.size));have HB2:=yH (HB1.out.trans (hb.mono HB1.out.size));clear hb HSW c1 HQ1 HB1 hl;obtain⟨s,hs,hst,hsz,hsm⟩:=sw_text HRT.out;have hne:=word_ne HRT.out;obtain⟨n,hn⟩:∃n,(wordS ps).length=n:=⟨_,rfl⟩;rw[hn]at hsz hne;have hRz:(T (wordS ps)).size=n:=hn;obtain⟨R,hR⟩:∃R,T (wordS ps)=R:=⟨_,rfl⟩;rw[hR]at hRz ⊢;have hs2:s=⟨#[97,61]⟩++R:=(by rw[hs,T_append,hR]);have HN:=yH (show 0<R.size by rw[hRz];exact hne);rw[←hRz]at hsz;have HS:=yH (And.intro hs2 (And.intro hst (And.intro hsz hsm)));clear hne hn hRz hs hst hsz hsm hs2 hR
    by_cases hl:(1500:Int)<(R.size:Int)
    · have h0:(0:Int)<(R.size:Int):=by omega
      clear HS HN
      go_wp2_with (go_at_call 19;refine(HK.out _ HQ2.out).mono ?_;rintro e w3 ⟨rfl,hb⟩;have HQ3:=yH (HQ2.out.trans (hb.mono HQ2.out.size));clear hb)
      go_ret;exact⟨rfl,HQ3.out⟩
    have h0:((R.size:Int)==0)=false:=(by rw[beq_eq_false_iff_ne];have:=HN.out;omega);have HSZ:=yH (show s.size≤2000 by rw[HS.out.2.2.1];omega);clear HN;go_wp2_with fail;have HTK:=rtokens_in s w2 HSZ.out HS.out.2.1 (HT.out w2 HQ2.out);rw[HS.out.2.2.2]at HTK;obtain⟨z,hz⟩:∃z,s.size=z:=⟨_,rfl⟩;rw[hz,HS.out.1]at HTK;clear hz HSZ HS HT;refine HTK.mono ?_;intro e w3 h3;clear HTK
    rcases tokens_shown HRT.out with ⟨m,hm⟩|⟨m,hm⟩
    · rw[hm]at h3
      obtain⟨vv,X,us,F,rfl,ho,hb⟩:=h3;have HQ3:=yH (HQ2.out.trans (hb.mono HQ2.out.size));have HB3:=yH (HB2.out.trans (hb.mono HB2.out.size));clear hm hb;obtain⟨pa,pr,t,hg,hpt,hcut⟩:=give_cut HRT.out;obtain⟨pp,cc,rfl,hat⟩:=ho.at;obtain⟨u,hu,hwv,b,o,rfl,d0,d1,d2,d3⟩:=hat 0 _ rfl;rw[hg]at hwv;have hfar:∀g,F g→w2.heap.size≤g:=fun g hg=>(ho.far g hg).1;obtain⟨g,cp, -,o2,rfl,hFg,hle,hcm,hgo,e1,ef,hps, -,hset⟩:=word_cut hwv;rw[hpt]at e1;have hg0:=hfar g hFg;have c3:=HPC.out w3 HB3.out;replace d0:w3.cell? ⟨b,o,none⟩=some (.int .i64 1):=d0;replace d2:w3.cell? ⟨b,o+2,none⟩=some (.slice (some ⟨g,0,none⟩) (pr.length+1) cp):=d2;obtain⟨Y,hY⟩:∃Y,(⟨t.toArray⟩:ByteArray)=Y:=⟨_,rfl⟩;obtain⟨X,hX⟩:∃X,(⟨([97,61]++t).toArray⟩:ByteArray)=X:=⟨_,rfl⟩;replace e1:w3.cell? ⟨g,1,none⟩=some (.string X):=(by rw[←hX];exact e1);have hx2:2≤X.size:=(by rw[←hX];show 2≤([97,61]++t).toArray.size;simp);have hX2:¬(X.size:Int)<2:=(by omega)
      have ht20:t.length≤1048576:=by
        rcases hcut with ⟨-,hc⟩|⟨ht, -⟩
        · exact(HSM.out.get (by rw[←hc];exact List.mem_cons_self)).1
        · rw[ht];exact Nat.zero_le _
      have hXm:(X.size:Int)≤2^63-1:=by
        have:X.size=2+t.length:=(by rw[←hX];show([97,61]++t).toArray.size=_;simp;omega);omega
      have hXY:X.extract 2 X.size=Y:=(by rw[←hX,←hY];exact cut_two t);obtain⟨w4,hw4⟩:∃w4,w3.setCell ⟨g,1,none⟩ (.string Y)=w4:=⟨_,rfl⟩;have hset:=hset t;have eY:txt t= .string Y:=(by rw[←hY];rfl);rw[eY,hw4]at hset;obtain⟨hps4,e4⟩:=hset;have hwg:w.heap.size≠g:=(by have:=HB2.out.size;have:=HLT.out;omega)
      have c4:w4.cell? ⟨w.heap.size,0,none⟩=some (.slice p L c):=by
        rw[←hw4,World.cell?_of_block (Below.heap_setCell w3 ⟨g,1,none⟩ (.string Y) w.heap.size hwg)];exact c3
      have HQ4:=yH (show Below w.heap.size w w4 by rw[←hw4];exact below_set HQ3.out (by have:=HB2.out.size;have:=HLT.out;omega) _);have HP4:=yH (HP.out w4 HQ4.out);obtain⟨M,hM⟩:∃M,pr.length+1=M:=⟨_,rfl⟩;rw[hM]at d2 hle;have hM1:¬(M:Int)<1:=(by omega);have hM0:0<M:=(by omega);have hYs:Y.toList.isEmpty=t.isEmpty:=(by rw[←hY,Lib.toList_data]);clear hat hu hwv hfar hset hps d1 d3 ho hgo HPC hX eY hY;clear ht20;have HM:=yH hM;clear hM
      rcases hcut with ⟨ht,hc⟩|⟨ht,hc⟩
      · have hYe:Y.toList.isEmpty=false:=by rw[hYs];cases t with
          |nil=>exact absurd rfl ht
          |cons=>rfl
        rw[hc,HM.out]at hps4;have HPQ:=yH (qparts_yes hps4 HP4.out 0);clear ht hc hps4 hYs HP4 HP
        go_wp2_with (first
          |(go_at_call 21;refine(HPQ.out).mono ?_;rintro e w5 ⟨rfl,m5,rfl⟩;have HQ5:=yH (HQ4.out.trans (below_nothing w.heap.size w4 m5)))
          |(go_at_call 19;refine(HK.out _ HQ5.out).mono ?_;rintro e w6 ⟨rfl,hb⟩;have HQ6:=yH (HQ5.out.trans (hb.mono HQ5.out.size));clear hb))
        go_ret;exact⟨rfl,HQ6.out⟩
      · have hYe:Y.toList.isEmpty=true:=by rw[hYs,ht];rfl
        have hcp:¬cp=1:=by
          have hM:=HM.out
          have h1:0<ps.length:=by
            cases ps with
            |nil=>have h:=HRT.out;unfold wordT at h;cases h
            |cons=>simp
          rw[hc]at hM;omega
        rw[HM.out]at hps4;have htl:=hps4.tail HM.out.symm (cp-1);have e1:pr.length=M-1:=(by have:=HM.out;omega);rw[e1,hc]at htl;have HPQ:=yH (qparts_yes htl HP4.out 0);clear ht hc hps4 hYs HP4 HP htl e1
        go_wp2_with (first
          |(go_at_call 21;refine(HPQ.out).mono ?_;rintro e w5 ⟨rfl,m5,rfl⟩;have HQ5:=yH (HQ4.out.trans (below_nothing w.heap.size w4 m5)))
          |(go_at_call 19;refine(HK.out _ HQ5.out).mono ?_;rintro e w6 ⟨rfl,hb⟩;have HQ6:=yH (HQ5.out.trans (hb.mono HQ5.out.size));clear hb))
        go_ret;exact⟨rfl,HQ6.out⟩
    · rw[hm]at h3
      obtain⟨-,rfl,hb⟩:=h3;have HQ3:=yH (HQ2.out.trans (hb.mono HQ2.out.size));clear hm hb
      go_wp2_with (go_at_call 19;refine(HK.out _ HQ3.out).mono ?_;rintro e w4 ⟨rfl,hb⟩;have HQ4:=yH (HQ3.out.trans (hb.mono HQ3.out.size));clear hb)
      go_ret;exact⟨rfl,HQ4.out⟩
end Go.Proofs.YtcpmjkefbjbhpaaGreatDoor
namespace Go.Proofs.YtcpmjkefbjbhpaaGreatDoor
open Go Go.ChangeShapes Go.WideShapes Go.ChangeAt Go.WideMaps Go.WideElems Go.RowKit GlyphMath LexMath TreeMath
set_option maxRecDepth 100000 in
theorem showWords_contract (H:Type) (enc:TypeId×Value→H) (W:World) (base:Nat) (args:Array Value) (ds gs:List (DataW H)) (before:List MemPlace)
    (hval0:∀(j:Nat) t v,Tryz.f8.params[j]? =some t→args[j]? =some v→Value.okWide Tryz.prog W .any base t v)
    (hW:DataW.Whole enc Tryz.prog Tryz.f8.params.toList Rows.showWordsSpec.vars false W args.toList ds gs before) (hk:Rows.uptoSmall H (ds++gs)=true) (hL:laidMetH Tryz.prog wordsL W):
    Calls Tryz.prog 8 args W fun e W'=> ∃v,e= .returned v∧Rows.showWordsSpec.post enc Tryz.prog Tryz.f8 false true false false W args v W':=by
  have hval:∀(j:Nat) t v,Tryz.f8.params[j]? =some t→args[j]? =some v→Value.okWide Tryz.prog W .any base t v:=hval0;have hW':=hW;obtain⟨hS,hT,hF⟩:=words_of_laidH hL;obtain⟨p,q,hA0,hV,hbe,hfz,hnd⟩:=hW;have hA:DataW.TrodAll enc Tryz.prog W 0 (fun _=>true) true Tryz.f8.params.toList args.toList ds p:=hA0;rw[Tryz.params8]at hA hval;obtain⟨v0,d0,rfl,rfl,h0⟩:=trodAll_one hA;obtain⟨rfl,rfl⟩:=trodVars_none hV
  have fin:∀W':World,Below W.heap.size W W'→Rows.showWordsSpec.post enc Tryz.prog Tryz.f8 false true false false W #[v0] (.bool true) W':=fun W' hb=>
    law_post laidOut (by decide+kernel) (by kernel_rfl) Tryz.underlying4 rfl hW' rfl hb
  have hB:Rows.uptoBulk d0≤1048576:=by
    have h:=of_decide_eq_true hk;simp only[List.append_nil,Rows.uptoBulkAll]at h;omega
  obtain⟨l,u,rfl,hP,hs,hl⟩:=word_open (hval 0 45 v0 rfl rfl) h0 hB;exact(words_law l u W hP hs hl hT hS hF).mono fun e W' ⟨he,hb⟩=>⟨_,he,fin W' hb⟩
set_option maxRecDepth 100000 in
theorem showWords_reads (os:Os) {H:Type} (enc:TypeId×Value→H):∃places,DataW.whole enc Tryz.prog ((World.laidAll Tryz.prog os wordsL).forCall (fun _ _=>0) ⟨#[],#[.agg #[.slice none 0 0]],[]⟩).memory Tryz.f8.params.toList Rows.showWordsSpec.vars false #[Value.agg #[.slice none 0 0]].toList 8=some ([.agg [.nil]],[],places):=
  ⟨[],by kernel_rfl⟩
set_option maxRecDepth 100000 in
theorem showWords_lifted (os:Os) (started:os.Started) (H:Type) (enc:TypeId×Value→H) (F:Stop.Interp):
    ReturnsInHanded {} Tryz.checked os 8 .any ((Rows.OpenSpec.upto Rows.showWordsSpec).preRow enc Tryz.prog Tryz.f8 Rows.showWordsUptoRow.domain false Rows.showWordsUptoRow.laid) (((Rows.OpenSpec.upto Rows.showWordsSpec).at F).post enc Tryz.prog Tryz.f8 false true false false):=by
  obtain⟨places,hx⟩:=showWords_reads os enc;have hok:Input.okWideB Tryz.prog ((World.laidAll Tryz.prog os wordsL).forCall (fun _ _=>0) ⟨#[],#[.agg #[.slice none 0 0]],[]⟩) 8 ⟨#[],#[.agg #[.slice none 0 0]],[]⟩=true:=(by kernel_rfl)
  refine returnsInHanded_of_row (C:=Tryz.checked) (s:=Rows.OpenSpec.upto Rows.showWordsSpec) own started (by kernel_rfl) Tryz.func8
    ⟨World.laidAll Tryz.prog os wordsL,fun _ _=>0,⟨#[],#[.agg #[.slice none 0 0]],[]⟩,World.laidAll_os _ _ _,World.shaped_of_ZipB (by kernel_rfl) (by kernel_rfl),(Input.okWide_of_okWideB (base:=0) hok).1,(Input.okWide_of_okWideB hok).2,
      OpenSpec.preRow_of_cond 8 hx (by kernel_rfl) (fun k hk=>by cases hk;kernel_rfl) (by kernel_rfl) (by
        show laidMetH Tryz.prog wordsL _
        rw[MakeChecks.laidMetH_plain _ _ _ (by kernel_rfl)];exact laidMet_laidAll _ (by kernel_rfl) (by kernel_rfl)),by
      simp only[Assume.holds]
      exact⟨by simp,by simp,fun _=>Modest.zero,by simp,by simp⟩⟩ ?_
  intro W base args ds gs before hval hW _ hcond _ hL _ _;exact showWords_contract H enc W base args ds gs before hval hW (hcond _ rfl) hL
theorem showWords_said:Rows.ShowWordsUptoSaid:=
  OpenClaim.holds_of_cond 8 Tryz.f8 rfl rfl rfl rfl rfl rfl rfl ⟨rfl,rfl,rfl,rfl,rfl⟩ rfl rfl rfl rfl rfl (by kernel_rfl) Tryz.func8 (by kernel_rfl)
    (of_decide_eq_true (by kernel_rfl)) (by unfold Func.isWrapper;first|(rw[if_pos (by decide+kernel)];kernel_rfl)|(rw[if_neg (by decide+kernel)];exact⟨rfl,rfl⟩))
    (fun os started H enc _ F=>by rw[OpenClaim.pre_eq_preRow];exact showWords_lifted os started H enc F)
theorem showWords_plain (f : FuncId) (fn : Func) (hf : Tryz.pinned.checked.prog.funcNamed "lazarus/lazaruslaw11.ShowWords" = some f) (hfn : Tryz.pinned.checked.prog.funcs[f]? = some fn) :
    false=Tryz.pinned.checked.prog.looks []∧∀(j:Nat) t,fn.params[j]? =some t→Tryz.pinned.checked.prog.wantsStandIn t=false:=by
  obtain rfl : f = 8 := Option.some.inj ((show Tryz.prog.funcNamed "lazarus/lazaruslaw11.ShowWords" = some 8 by kernel_rfl).symm.trans hf) |>.symm
  obtain rfl:fn=Tryz.f8:=(Option.some.inj (Tryz.func8.symm.trans hfn)).symm;refine⟨by kernel_rfl,fun j t ht=> ?_⟩;rw[Tryz.params8]at ht;obtain rfl:t=45:=(by simpa using Array.mem_of_getElem? ht);exact(show Tryz.prog.wantsStandIn 45=false by kernel_rfl)
theorem showWords_card:Rows.ShowWordsUptoCardSaid:=
  Claim7.holds_tied_plain_at .later [] _ _ _ _ showWords_said (fun _ h=>by cases h) (by kernel_rfl) (fun _ h=>by cases h) showWordsUpto_row_tie rfl ⟨rfl,rfl⟩ (by kernel_rfl) rfl showWords_plain (by kernel_rfl)
end Go.Proofs.YtcpmjkefbjbhpaaGreatDoor
