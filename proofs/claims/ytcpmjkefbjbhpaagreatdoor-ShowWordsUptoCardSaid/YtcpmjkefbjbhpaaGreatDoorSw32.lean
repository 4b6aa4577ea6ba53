/-
  Proved: contracts of functions, plain facts. Conditions: as each says.
-/
import Derived.Test.YtcpmjkefbjbhpaaGreatDoorSw31
import Derived.Deep.CutRange
import Derived.Test.YtcpmjkefbjbhpaaGreatDoorSw27
import Derived.Test.YtcpmjkefbjbhpaaGreatDoorSw26
import Derived.Test.YtcpmjkefbjbhpaaGreatDoorSw37
import Derived.Test.YtcpmjkefbjbhpaaGreatDoorSw30
import Derived.Deep.RegionHeld3
namespace Go.Proofs.YtcpmjkefbjbhpaaGreatDoor
open Go Go.RowKit GlyphMath LexMath TreeMath ParseMath
set_option maxHeartbeats 64000000 in
set_option maxRecDepth 10000 in
theorem qsimple_good {w0 w:World} {X:Nat} {S:PS} (hT:Tabs w0) (h:Rr w0 w X S) (h0:S.err=0) (h1:(S.isWord||S.isRedir)=true):
    Calls Tryz.prog 181 #[.pointer (some ⟨X,0,none⟩)] w fun e w'=> ∃t,TrAt w0 w w' e X t (simpleM S).2∧((simpleM S).2.err=0→t=(simpleM S).1):=by
  have hM:simpleM S=(.mk (simpleL S.ts.length n0 S).1 [],(simpleL S.ts.length n0 S).2):=by
    show(Tr.mk (simpleL (S.want (S.isWord||S.isRedir)).ts.length _ (S.want (S.isWord||S.isRedir))).1 [],(simpleL (S.want (S.isWord||S.isRedir)).ts.length _ (S.want (S.isWord||S.isRedir))).2)=_;rw[h1,show S.want true=S from rfl];rfl
  have HSA:=yH (And.intro h0 h1);have HTB:=yH hT;have HX:=yH h.base;have HR1:=yH (RdH.begin h);obtain⟨q,hq⟩:∃q,simpleL S.ts.length n0 S=q:=⟨_,rfl⟩;rw[hq]at hM;have HQ:=yH hq;rw[hM];dsimp only;clear h h0 h1 hM hq hT;go_enter Tryz.func181,Tryz.ntmps181
  go_wp2_with (first
    |(go_at_call 68;refine(qof_any _ _ _ _ _).mono ?_;rintro en w2 ⟨rfl,hb⟩;have HR2:=yH (HR1.out.new HX.out.2 hb);clear hb)
    |(refine wpList_store_row (by rfl) 74 (.tmp 3) (.tmp 12) (by rfl) w2.heap.size (ofC ⟨#[99,109,100]⟩ (.slice none 0 0)).toArray (by rfl) (by rfl) 74 zeroN.toArray (heap_alloc_new w2 _) (by rw[rtree_info];rfl) rfl (all_oneCell_toArray (ofC_cel _ _ _ _).2) ?_;rw[World.setRow_alloc_new];have hb:=SiR.first HR2.out.pr HR2.out.zero HR2.out.kept;obtain⟨w3,hw⟩:∃W,W=w2.alloc (.cells (ofC ⟨#[99,109,100]⟩ (.slice none 0 0)).toArray 74):=⟨_,rfl⟩;have hw2:w2.alloc (.cells (siK V0 n0).toArray 74)=w3:=hw.symm;rw[hw2]at hb;rw[←hw];have HB3:=yH hb;clear hb hw hw2))
  obtain⟨Y,hY⟩:∃Y,w2.heap.size=Y:=⟨_,rfl⟩;rw[hY]at HB3 ⊢;clear hY
  go_loopw [4] (fun v wr=> ∃b f n V S',v= .bool b∧SiR w0 w wr X Y n V 4002 S'∧simpleL f n S'=q∧S'.ts.length≤f∧(b=false→S'=S)) (fun _ wr=>rsLen wr X)
  case atStart=>exact⟨false,_,_,_,_,rfl,HB3.out,HQ.out,Nat.le_refl _,fun _=>rfl⟩
  case round=>
    obtain⟨b,f,n,V,S',rfl,hL,hm,hf,hbs⟩:=hrel;have hpos:=hL.box.rd.pr.good.pos;obtain⟨f,rfl⟩:∃g,f=g+1:=⟨f-1,by omega⟩;obtain⟨pw,cw,cssw,Fw,pa,ca,cssa,Fa,pr,cr,cssr,Fr⟩:=V;have c2:=hL.box.rd.pr.errc;have HL:=yH hL;have HS:=yH (And.intro hm (And.intro hf hbs));obtain⟨nw,hnw⟩:∃x,n.words.length=x:=⟨_,rfl⟩;obtain⟨na,hna⟩:∃x,n.assigns.length=x:=⟨_,rfl⟩;obtain⟨nr,hnr⟩:∃x,n.redirs.length=x:=⟨_,rfl⟩;have HNN:=yH (And.intro hnw (And.intro hna hnr));have HCS:=yH (show ∀M (T:PS) W,SiR w0 w W X Y n ⟨pw,cw,cssw,Fw,pa,ca,cssa,Fa,pr,cr,cssr,Fr⟩ M T→W.heap[Y]? =some (.cells (nkC ⟨#[99,109,100]⟩ ⟨#[]⟩ (.slice pw nw cw) (.slice none 0 0) (.slice pa na ca) (.slice pr nr cr) (.slice none 0 0)).toArray 74 (0,0))from fun M T W h=>by have:=h.box.box;unfold siK at this;rwa [hnw,hna,hnr]at this);clear hm hf hbs hnw hna hnr hpos
    by_cases he:S'.err=0
    case neg=>
      have hz:((S'.err:Int)==0)=false:=by
        have:¬(S'.err:Int)=0:=by omega
        simpa using this
      have hb:b=true:=by
        cases b with
        |true=>rfl
        |false=>exact absurd ((HS.out.2.2 rfl).symm▸HSA.out.1) he
      subst hb;have HE:=yH (show q=(n,S')from by rw[←HS.out.1,simpleL_dead hL.box.rd.pr.good (hL.box.rd.pr.dead he)]);clear he hL
      go_wp2_with (first
        |(refine wpList_store_row (by rfl) 74 (.tmp 2) (.tmp 99) (by rfl) w.heap.size (siK ⟨pw,cw,cssw,Fw,pa,ca,cssa,Fa,pr,cr,cssr,Fr⟩ n).toArray (by rfl) (by rfl) 74 zeroN.toArray HL.out.box.rd.zero (by rw[rtree_info];rfl) rfl (all_oneCell_toArray (nkC_cel _ _ _ _ _ _ _ _ _ _ _ _ _ _ _ _ _).2) ?_)
        |(refine wpList_load_row (by rfl) 74 (.tmp 3) (by rfl) Y (by rfl) 74 (siK ⟨pw,cw,cssw,Fw,pa,ca,cssa,Fa,pr,cr,cssr,Fr⟩ n).toArray (0,0) _ HL.out.box.box Tryz.underlying74 rfl (by rw[rtree_info];rfl) ?_))
      (try simp only[Exit.inBlock,Exit.then])
      refine bodyPost_ret (ret_rtree rfl (setRow_heap wr w.heap.size zeroN.toArray _ 74 (0,0) HL.out.box.rd.zero) (nkC_cel _ _ _ _ _ _ _ _ _ _ _ _ _ _ _ _ _) rfl) rfl ?_;exact(by rw[HE.out];exact⟨_,HL.out.box.rd.ret HX.out.2 HX.out.1 (nkC_cel _ _ _ _ _ _ _ _ _ _ _ _ _ _ _ _ _) HL.out.node_tree,fun _=>rfl⟩)
    rw[he]at c2;have c2:wr.cell? ⟨X,2,none⟩=some (.int .i64 0):=c2;have HE0:=yH he;have HRD:=yH (qredir_any hL.box.rd.pr);clear he
    cases hi:S'.isRedir with
    |true=>
      have HI:=yH hi;obtain⟨y,hy⟩:∃y,(redirM S').1=y:=⟨_,rfl⟩;have HY:=yH hy;clear hL
      have HRE:=yH (show Calls Tryz.prog 179 #[.pointer (some ⟨X,0,none⟩)] wr fun e w'=> ∃p k,e= .returned (.tuple #[.agg #[.string (T y.1),.slice p y.2.length k],.bool true])∧PsAt w0 (.slice p y.2.length k) y.2∧QStep w0 wr w' X (redirM S').2 from HRD.out.mono fun e w' h=>by
        have:=h.1 HI.out;unfold RdEnd at this;rw[HY.out]at this
        exact this)
      obtain⟨yl,hyl⟩:∃x,y.2.length=x:=⟨_,rfl⟩;obtain⟨yt,hyt⟩:∃x,T y.1=x:=⟨_,rfl⟩;have HYT:=yH hyt;rw[hyl,hyt]at HRE;have HLT:=yH (redir_lt HL.out.box.rd.pr.good HI.out);clear hy hyl hyt hi
      go_wp2_with (first
        |(go_at_call 179;refine HRE.out.mono ?_;rintro en w5 ⟨p5,k5,rfl,hu,hs⟩;have hl:=(HL.out.step (M':=4001) HX.out.2 hs (by decide) (by have:=HLT.out;omega)).new HX.out.2 (below_new w5 (.cells #[.string yt,.slice p5 yl k5] 125));have d6:(w5.alloc (.cells #[.string yt,.slice p5 yl k5] 125)).cell? ⟨Y,6,none⟩=some (.slice pr nr cr):=(by rw[cell_plain (HCS.out _ _ _ hl)];rfl);have HL5:=yH hl;have HU5:=yH hu;clear hs hu hl)
        |(refine wpList_load_row (by rfl) 125 (.tmp 5) (by rfl) w5.heap.size (by rfl) 125 #[.string yt,.slice p5 yl k5] (0,0) _ (heap_alloc_new w5 _) Tryz.underlying125 rfl (by rw[redir_info];rfl) ?_)
        |(refine wpList_one elRedir (by rfl) (.tmp 27) (by rfl) _ [.string yt,.slice p5 yl k5] rfl (pair_cel _ _ _ _) (by rfl) ?_)
        |(at_builtin;refine wpList_push elRedir (by rfl) (.tmp 26) (.tmp 28) (by rfl) HL5.out.rowr (pair_cel _ _ _ _) (y:=y) (C:=(w5.alloc (.cells #[.string yt,.slice p5 yl k5] 125)).heap.size) (NewAt.of0 fun W hW=>⟨_,by rw[←HYT.out];rfl,HU5.out.stays hW⟩) HL5.out.box.lt (fun k hk=>(HL5.out.rowr.lt k (.inr hk)).2) (by have:=HL5.out.fewr;omega) (by rw[HNN.out.2.2];rfl) (by rfl) HL5.out.box.lt ?_;intro p8 c8 F8 w8 hr8 hF8 hat8 hk8;have hb8:=HL5.out.box.turn HX.out.2 HX.out.1 hk8 (fun k hk=>(HL5.out.rowr.lt k (.inr hk)).1);have e6:w8.cell? ⟨Y,6,none⟩=some (.slice pr nr cr):=(by rw[cell_plain hb8.box,←HNN.out.2.2];rfl);have f6:=frozen_plain hb8.box 6;have HS8:=yH (And.intro hr8 (And.intro hF8 (And.intro hat8 hk8)));clear hr8 hF8 hat8 hk8 hb8))
      have hP:=HL5.out.pushr (by decide) HX.out.2 HX.out.1 (fun k hk=>(HL5.out.roww.lt k (.inr hk)).2) (fun k hk=>(HL5.out.rowa.lt k (.inr hk)).2) HS8.out.1 HS8.out.2.1 HS8.out.2.2.1 HS8.out.2.2.2
      go_roundw
      case rel=>exact⟨true,f,_,_,_,rfl,hP,by rw[←HY.out,←simpleL_redir HI.out];exact HS.out.1,by have:=HS.out.2.1;have:=HLT.out;omega,fun h=>by cases h⟩
      case measure=>
        rw[hP.box.rd.pr.len,HL.out.box.rd.pr.len,HE0.out];have:=HLT.out;simp only[if_true]
        split<;>omega
    |false=>
      have HI:=yH hi;have HRE:=yH (HRD.out.mono fun e w' h=>h.2 hi);have HN:=yH (fun W (hW:Rr w0 W X S')=>qnow_any hW)
      cases hj:S'.isWord with
      |false=>
        have hb:b=true:=by
          cases b with
          |true=>rfl
          |false=>
            have h1:=HS.out.2.2 rfl;have h2:=HSA.out.2;rw[←h1,hi,hj]at h2
            cases h2
        subst hb;have HE:=yH (show q=(n,S')from by rw[←HS.out.1,simpleL_end hi hj]);have hk:S'.hd.kind≠1:=(by simpa [PS.isWord]using hj);unfold tkN at HN;obtain⟨kd,hkd⟩:∃x,S'.hd.kind=x:=⟨_,rfl⟩;obtain⟨tx,htx⟩:∃x,T S'.hd.text=x:=⟨_,rfl⟩;obtain⟨wl,hwl⟩:∃x,S'.hd.word.length=x:=⟨_,rfl⟩;rw[hkd]at hk;simp only[hkd,htx,hwl]at HN;have hk1:(kd !=1)=true:=(by simpa using hk);clear hi hj hk hkd htx hwl hL
        go_wp2_with (first
          |(refine wpList_store_row (by rfl) 74 (.tmp 2) (.tmp 99) (by rfl) w.heap.size (siK ⟨pw,cw,cssw,Fw,pa,ca,cssa,Fa,pr,cr,cssr,Fr⟩ n).toArray (by rfl) (by rfl) 74 zeroN.toArray HL5.out.box.rd.zero (by rw[rtree_info];rfl) rfl (all_oneCell_toArray (nkC_cel _ _ _ _ _ _ _ _ _ _ _ _ _ _ _ _ _).2) ?_)
          |(refine wpList_load_row (by rfl) 74 (.tmp 3) (by rfl) Y (by rfl) 74 (siK ⟨pw,cw,cssw,Fw,pa,ca,cssa,Fa,pr,cr,cssr,Fr⟩ n).toArray (0,0) _ HL5.out.box.box Tryz.underlying74 rfl (by rw[rtree_info];rfl) ?_)
          |(go_at_call 29;refine(HN.out _ HL4.out.box.rd.pr).mono ?_;rintro en w5 ⟨p5,k5,a5,rfl, -,hb⟩;have qf:=tok_f0 kd a5 tx p5 wl k5;have HL5:=yH (HL4.out.new HX.out.2 hb);clear hb)
          |(go_at_call 179;refine HRE.out.mono ?_;rintro en w4 ⟨rfl,hs⟩;have HL4:=yH ((HL.out.step (M':=4002) HX.out.2 hs (by decide) (Nat.le_refl _)).new HX.out.2 (below_new w4 (.cells #[.string ⟨#[]⟩,.slice none 0 0] 125)));clear hs))
        (try simp only[Exit.inBlock,Exit.then])
        refine bodyPost_ret (ret_rtree rfl (setRow_heap w5 w.heap.size zeroN.toArray _ 74 (0,0) HL5.out.box.rd.zero) (nkC_cel _ _ _ _ _ _ _ _ _ _ _ _ _ _ _ _ _) rfl) rfl ?_;exact(by rw[HE.out];exact⟨_,HL5.out.box.rd.ret HX.out.2 HX.out.1 (nkC_cel _ _ _ _ _ _ _ _ _ _ _ _ _ _ _ _ _) HL5.out.node_tree,fun _=>rfl⟩)
      |true=>
        have HJ:=yH hj;have hk:S'.hd.kind=1:=(by simpa [PS.isWord]using hj);have HWD:=yH (fun W (hW:Rr w0 W X S')=>qany2_any hW);rw[word_yes hj]at HWD;dsimp only at HWD;have hg:=hL.box.rd.pr.good
        have hmid:MidT S'.hd:=by
          rcases hg.hd with ⟨e, -⟩|⟨m, -⟩
          · rw[e.kind]at hk;exact absurd hk (by decide)
          · exact m
        have hsml:Small S'.hd.word∧S'.hd.word.length≤4000∧S'.hd.word≠ []:=by
          rcases hmid.is with ⟨-, -,hw,hs,hl⟩|⟨h2, -⟩
          · exact⟨hs,hl,fun e=>by rw[e]at hw;exact absurd hw (by decide)⟩
          · rw[h2]at hk;cases hk
        have htxp:S'.tx=(plainT S'.hd.word).getD []:=by
          unfold PS.tx textK;rw[if_pos hk]
        have HLT:=yH (take_lt hg (isWord_ne hj));have HWS:=yH (word_yes hj);unfold tkN at HN;obtain⟨ps,hps⟩:∃x,S'.hd.word=x:=⟨_,rfl⟩;have HPS:=yH hps;rw[hps]at HN HWD hsml htxp HWS;obtain⟨tx,htx⟩:∃x,T S'.hd.text=x:=⟨_,rfl⟩;obtain⟨yl,hyl⟩:∃x,ps.length=x:=⟨_,rfl⟩;simp only[hk,htx,hyl]at HN;rw[hyl]at HWD;have HYL:=yH hyl;have HPL:=yH (fun W (hW:Below w0.heap.size w0 W) p k (hu:PsAt w0 (.slice p yl k) ps)=>rplain_any ps _ W (hu.stays hW));unfold wordV at HPL;obtain⟨O,hO⟩:∃O,(plainT ps).isSome=O:=⟨_,rfl⟩;obtain⟨pl,hpl⟩:∃x,(plainT ps).getD []=x:=⟨_,rfl⟩
        have HPO:=yH (show O=true→plainT ps=some pl from fun h=>by
          rw[←hO]at h;obtain⟨a,ha⟩:=Option.isSome_iff_exists.1 h;rw[ha]at hpl ⊢
          rw[←hpl];rfl)
        have HPN:=yH (show O=false→reservedT pl=false from fun h=>by
          rw[←hO]at h
          cases hp:plainT ps with
          |none=>rw[hp]at hpl;rw[←hpl];decide
          |some a=>rw[hp]at h;cases h)
        rw[hpl]at htxp;have HTX:=yH htxp;have HRV:=yH (fun W=>qreserved_any pl W);obtain⟨tp,htp⟩:∃x,T pl=x:=⟨_,rfl⟩;obtain⟨RB,hRB⟩:∃x,reservedT pl=x:=⟨_,rfl⟩;have HRB:=yH hRB;rw[hO,hpl,htp]at HPL;rw[htp,hRB]at HRV;rw[hRB]at HPN;have HSM:=yH hsml;have d3:∀W,SiR w0 w W X Y n ⟨pw,cw,cssw,Fw,pa,ca,cssa,Fa,pr,cr,cssr,Fr⟩ 4002 S'→W.cell? ⟨Y,3,none⟩=some (.slice pw nw cw)∧W.cell? ⟨Y,5,none⟩=some (.slice pa na ca):=fun W h=>⟨by rw[cell_plain (HCS.out _ _ _ h)];rfl,by rw[cell_plain (HCS.out _ _ _ h)];rfl⟩;have HD:=yH d3
        have hwr:IntKind.i64.wrap ((nw:Int)+(na:Int))=((nw+na:Nat):Int):=by
          rw[show (nw:Int)+(na:Int)=((nw+na:Nat):Int) by omega];have h1:=HL.out.feww;have h2:=HL.out.fewa;have h3:=HNN.out;exact IntWalk.i64_in _ ⟨by omega,by omega⟩
        obtain⟨sn,hsn⟩:∃x:Int,((nw+na:Nat):Int)=x:=⟨_,rfl⟩;rw[hsn]at hwr;have HSNN:=yH hsn;clear hsn;clear hi hj hk hL hg hmid hsml htxp hps htx hyl hO hpl htp hRB d3
        go_upto_region 10 with (first
          |(go_at_call 179;refine HRE.out.mono ?_;rintro en w4 ⟨rfl,hs⟩;have HL4:=yH ((HL.out.step (M':=4002) HX.out.2 hs (by decide) (Nat.le_refl _)).new HX.out.2 (below_new w4 (.cells #[.string ⟨#[]⟩,.slice none 0 0] 125)));clear hs)
          |(go_at_call 29;(with_reducible refine(HN.out _ HL4.out.box.rd.pr).mono ?_);rintro en w5 ⟨p5,k5,a5,rfl,hu,hb⟩;have qf:=tok_f0 1 a5 tx p5 yl k5;have HL5:=yH (HL4.out.new HX.out.2 hb);clear hb hu)
          |(go_at_call 29;(with_reducible refine(HN.out _ HL5.out.box.rd.pr).mono ?_);rintro en w6 ⟨p6,k6,a6,rfl,hu,hb⟩;have qf6:=tok_f2 1 a6 tx p6 yl k6;have HL6:=yH (HL5.out.new HX.out.2 hb);have HC6:=yH (HPL.out _ HL6.out.box.rd.pr.below p6 k6 hu.1);clear hb hu)
          |(go_at_call 93;(with_reducible refine HC6.out.mono ?_);rintro en w7 ⟨rfl,hb⟩;have hl:=HL6.out.new HX.out.2 hb;have e3:=(HD.out _ hl).1;have e5:=(HD.out _ hl).2;have HL7:=yH hl;clear hb hl))
        go_cut [59]from 43 to 59 (fun v wx=>v= .bool (decide (nw+na=0)&&(O&&RB))∧wx=w7)
        case first=>
          by_cases hs0:nw+na=0
          · have hs1:(sn==0)=true:=by rw[←HSNN.out,hs0];rfl
            have HS0:=yH (show decide (nw+na=0)=true from decide_eq_true hs0);clear hs0
            cases O with
            |true=>
              go_wp2_with (go_at_call 50;refine(HRV.out _).mono ?_;rintro en w8 ⟨rfl,rfl⟩)
              all_goals go_meet
              all_goals first
                |exact⟨by rw[HS0.out];rfl,rfl⟩
                |exact⟨by rw[HS0.out];simp_all,rfl⟩
            |false=>
              go_wp2_with fail
              all_goals go_meet
              all_goals first
                |exact⟨by rw[HS0.out];rfl,rfl⟩
                |exact⟨by rw[HS0.out];simp_all,rfl⟩
          · have hs2:¬sn=0:=by have:=HSNN.out;omega
            have hs1:(sn==0)=false:=(by simpa using hs2);have HS0:=yH (show decide (nw+na=0)=false from decide_eq_false hs0);clear hs0;go_wp2_with fail
            all_goals go_meet
            all_goals first
              |exact⟨by rw[HS0.out];rfl,rfl⟩
              |exact⟨by rw[HS0.out];simp_all,rfl⟩
        case rest=>
        obtain⟨rfl,rfl⟩:=hcut
        apply_assumption
        obtain⟨RV,hRV⟩:∃x,(decide (nw+na=0)&&(O&&RB))=x:=⟨_,rfl⟩;have HRV2:=yH hRV;rw[hRV];clear hRV hwr
        cases RV with
        |true=>
          have HE:=yH (show q=(n,S'.fail 2)from by
            have h1:=HRV2.out;simp only[Bool.and_eq_true,decide_eq_true_eq]at h1;have hw:n.words= []:=List.length_eq_zero_iff.1 (by have:=HNN.out.1;omega);have ha:n.assigns= []:=List.length_eq_zero_iff.1 (by have:=HNN.out.2.1;omega);have hpl:=HPO.out h1.2.1;have hrv:reservedT pl=true:=(by rw[HRB.out];exact h1.2.2);have hb:=part_bad (n:=n) (S:=S') hw (by rw[HPS.out];exact reserved_none hpl hrv) ha (by rw[HTX.out];exact hrv);have hg:=HL.out.box.rd.pr.good;rw[←HS.out.1,simpleL_word HI.out HJ.out,hb]
            exact simpleL_dead (to_fail hg (by decide)).good (fail_one hg 2) _ _)
          cases b with
          |true=>
            go_wp2_with (first
              |(refine wpList_store_row (by rfl) 74 (.tmp 2) (.tmp 99) (by rfl) w.heap.size (siK ⟨pw,cw,cssw,Fw,pa,ca,cssa,Fa,pr,cr,cssr,Fr⟩ n).toArray (by rfl) (by rfl) 74 zeroN.toArray HL8.out.box.rd.zero (by rw[rtree_info];rfl) rfl (all_oneCell_toArray (nkC_cel _ _ _ _ _ _ _ _ _ _ _ _ _ _ _ _ _).2) ?_)
              |(refine wpList_load_row (by rfl) 74 (.tmp 3) (by rfl) Y (by rfl) 74 (siK ⟨pw,cw,cssw,Fw,pa,ca,cssa,Fa,pr,cr,cssr,Fr⟩ n).toArray (0,0) _ HL8.out.box.box Tryz.underlying74 rfl (by rw[rtree_info];rfl) ?_)
              |(go_at_call 30;refine(qfail_any HL7.out.box.rd.pr 2 (by decide) (by decide)).mono ?_;rintro en w8 ⟨rfl,hs⟩;have HL8:=yH (HL7.out.step (M':=4002) HX.out.2 hs (by decide) (Nat.add_le_add_right (to_fail HL7.out.box.rd.pr.good (e:=2) (by decide)).len _));clear hs))
            (try simp only[Exit.inBlock,Exit.then])
            refine bodyPost_ret (ret_rtree rfl (setRow_heap w8 w.heap.size zeroN.toArray _ 74 (0,0) HL8.out.box.rd.zero) (nkC_cel _ _ _ _ _ _ _ _ _ _ _ _ _ _ _ _ _) rfl) rfl ?_;exact(by rw[HE.out];exact⟨_,HL8.out.box.rd.ret HX.out.2 HX.out.1 (nkC_cel _ _ _ _ _ _ _ _ _ _ _ _ _ _ _ _ _) HL8.out.node_tree,fun _=>rfl⟩)
          |false=>
            have HFF:=yH (fail_fail (e:=2) (f:=2) HL.out.box.rd.pr.good (by decide))
            go_wp2_with (first
              |(refine wpList_store_row (by rfl) 74 (.tmp 2) (.tmp 99) (by rfl) w.heap.size (siK ⟨pw,cw,cssw,Fw,pa,ca,cssa,Fa,pr,cr,cssr,Fr⟩ n).toArray (by rfl) (by rfl) 74 zeroN.toArray HL9.out.box.rd.zero (by rw[rtree_info];rfl) rfl (all_oneCell_toArray (nkC_cel _ _ _ _ _ _ _ _ _ _ _ _ _ _ _ _ _).2) ?_)
              |(refine wpList_load_row (by rfl) 74 (.tmp 3) (by rfl) Y (by rfl) 74 (siK ⟨pw,cw,cssw,Fw,pa,ca,cssa,Fa,pr,cr,cssr,Fr⟩ n).toArray (0,0) _ HL9.out.box.box Tryz.underlying74 rfl (by rw[rtree_info];rfl) ?_)
              |(go_at_call 30;refine(qfail_any HL8.out.box.rd.pr 2 (by decide) (by decide)).mono ?_;rintro en w9 ⟨rfl,hs⟩;rw[HFF.out]at hs;have HL9:=yH (HL8.out.step (M':=4002) HX.out.2 hs (by decide) (Nat.le_refl _));clear hs)
              |(go_at_call 30;refine(qfail_any HL7.out.box.rd.pr 2 (by decide) (by decide)).mono ?_;rintro en w8 ⟨rfl,hs⟩;have HL8:=yH (HL7.out.step (M':=4002) HX.out.2 hs (by decide) (Nat.add_le_add_right (to_fail HL7.out.box.rd.pr.good (e:=2) (by decide)).len _));clear hs))
            (try simp only[Exit.inBlock,Exit.then])
            refine bodyPost_ret (ret_rtree rfl (setRow_heap w9 w.heap.size zeroN.toArray _ 74 (0,0) HL9.out.box.rd.zero) (nkC_cel _ _ _ _ _ _ _ _ _ _ _ _ _ _ _ _ _) rfl) rfl ?_;exact(by rw[HE.out];exact⟨_,HL9.out.box.rd.ret HX.out.2 HX.out.1 (nkC_cel _ _ _ _ _ _ _ _ _ _ _ _ _ _ _ _ _) HL9.out.node_tree,fun _=>rfl⟩)
        |false=>
          obtain⟨G,hG⟩:∃x,givesT ps=x:=⟨_,rfl⟩;have HG:=yH hG;clear hG
          go_upto_region 15 with (first
            |(go_at_call 212;refine(HWD.out _ HL7.out.box.rd.pr).mono ?_;rintro en w8 ⟨p8,k8,rfl,hu,hs⟩;have hl:=(HL7.out.step (M':=4001) HX.out.2 hs (by decide) (by have:=HLT.out;omega)).new HX.out.2 (below_new w8 (.cells #[.slice p8 yl k8] 45));have HL8:=yH hl;have HU8:=yH hu;have HSZ8:=yH hs.2.size;have HIA:=yH (qisassign_any ps (.slice p8 yl k8) _ (hu.1.stays hl.box.rd.pr.below) HSM.out.1 (HTB.out.below hl.box.rd.pr.below));clear hs hu hl)
            |(go_at_call 92;refine HIA.out.mono ?_;rintro en w9 ⟨kk,rfl,hb,hgk⟩;rw[HG.out]at hgk ⊢;have hl:=HL8.out.new HX.out.2 hb;have g3:w9.cell? ⟨Y,3,none⟩=some (.slice pw nw cw):=(by rw[cell_plain (HCS.out _ _ _ hl)];rfl);have HGK:=yH hgk;have HL9:=yH hl;have HW9:=yH ((hb.block w8.heap.size (by simp)).trans (heap_alloc_new w8 (.cells #[.slice p8 yl k8] 45)));clear hb hgk hl))
          obtain⟨Bx,hBx⟩:∃Bx,w8.heap.size=Bx:=⟨_,rfl⟩;rw[hBx]at HW9 HSZ8 ⊢;have HBX:=yH (show Y<Bx from Nat.lt_of_lt_of_le HL7.out.box.lt HSZ8.out);clear hBx;have b0:w9.cell? ⟨Bx,0,none⟩=some (.slice p8 yl k8):=(by rw[cell_plain HW9.out];rfl)
          cases G with
          |false=>
            have HPM:=yH (show ParseMath.partM n S'=({ n with words:=n.words++ [ps] },S'.take)from by
              have hw:=HWS.out
              by_cases hn0:n.words= []
              · have hA:assignO S'.hd.word=none:=by rw[HPS.out];exact gives_none HG.out
                have h3:n.assigns≠ []∨reservedT S'.tx=false:=by
                  by_cases ha:n.assigns= []
                  · refine .inr ?_
                    have h1:=HRV2.out;rw[show decide (nw+na=0)=true from decide_eq_true (by have e1:=HNN.out.1;have e2:=HNN.out.2.1;rw[hn0]at e1;rw[ha]at e2;simp at e1 e2;omega),Bool.true_and]at h1;rw[HTX.out,HRB.out]
                    cases O with
                    |true=>simpa using h1
                    |false=>exact HPN.out rfl
                  · exact .inl ha
                rw[part_first hn0 hA h3,hw]
              · rw[part_more hn0,hw])
            go_wp2_with (first
              |(refine wpList_one elWord (by rfl) (.tmp 90) (by rfl) _ [.slice p8 yl k8] rfl (slice_cel _ _ _) (by rfl) ?_)
              |(at_builtin;refine wpList_push elWord (by rfl) (.tmp 89) (.tmp 91) (by rfl) HL9.out.roww (slice_cel _ _ _) (y:=ps) (C:=w9.heap.size) (word_new HU8.out.1) HL9.out.box.lt (fun k hk=>(HL9.out.roww.lt k (.inr hk)).2) (by have:=HL9.out.feww;omega) (by rw[HNN.out.1];rfl) (by rfl) HL9.out.box.lt ?_;intro p11 c11 F11 w11 hr11 hF11 hat11 hk11;have hb11:=HL9.out.box.turn HX.out.2 HX.out.1 hk11 (fun k hk=>(HL9.out.roww.lt k (.inr hk)).1);have e3:w11.cell? ⟨Y,3,none⟩=some (.slice pw nw cw):=(by rw[cell_plain hb11.box,←HNN.out.1];rfl);have f3:=frozen_plain hb11.box 3;have HS11:=yH (And.intro hr11 (And.intro hF11 (And.intro hat11 hk11)));clear hr11 hF11 hat11 hk11 hb11))
            have hP:=HL9.out.pushw (by decide) HX.out.2 HX.out.1 (fun k hk=>(HL9.out.rowa.lt k (.inr hk)).2) (fun k hk=>(HL9.out.rowr.lt k (.inr hk)).2) HS11.out.1 HS11.out.2.1 HS11.out.2.2.1 HS11.out.2.2.2
            go_roundw
            case rel=>exact⟨true,f,_,_,_,rfl,hP,by have h1:=HS.out.1;rw[simpleL_word HI.out HJ.out,HPM.out]at h1;exact h1,by have:=HS.out.2.1;have:=HLT.out;omega,fun h=>by cases h⟩
            case measure=>
              rw[hP.box.rd.pr.len,HL.out.box.rd.pr.len,HE0.out,take_err];have:=HLT.out;simp only[if_true]
              split<;>omega
          |true=>
            by_cases hn0:nw=0
            · have hnz:((nw:Int)==0)=true:=by rw[hn0];rfl
              have hn1:nw=0:=hn0;obtain⟨a,hA,hAS⟩:=qassign_ps HYL.out HU8.out.1 HU8.out.2 HSM.out.1 HSM.out.2.1 HSM.out.2.2 HG.out (HGK.out rfl);have HAS:=yH hAS;obtain⟨ta,hta⟩:∃x,T a.1=x:=⟨_,rfl⟩;have HTA:=yH hta;have HPM:=yH (show ParseMath.partM n S'=({ n with assigns:=n.assigns++ [a] },S'.take)from part_some (List.length_eq_zero_iff.1 (by have:=HNN.out.1;omega)) (by rw[HPS.out];exact hA));clear hA hAS hta hn0;go_wp2_with fail;refine regionL (S:=(fun W=>W.cell? ⟨Y,5,none⟩=some (.slice pa na ca)∧W.cell? ⟨Bx,0,none⟩=some (.slice p8 yl k8))) (L:=10) (by kernel_rfl) ?_ (fun hHeld=> ?_)
              · exact⟨by rw[cell_plain (HCS.out _ _ _ (HL9.out.new HX.out.2 (below_drewA w9)))];rfl,b0⟩
              refine tkL 0 77 rfl rfl ?_ ?_ ?_;rotate_left
              · intro w hSw;obtain⟨s1,s2⟩:=hSw;go_simp<;>(with_reducible rfl)
              simp only[pS];refine tkL 1 78 rfl rfl ?_ ?_ ?_;rotate_left
              · intro w hSw;obtain⟨s1,s2⟩:=hSw;go_simp<;>(with_reducible rfl)
              simp only[pS];refine tkL 2 79 rfl rfl ?_ ?_ ?_;rotate_left
              · intro w hSw;obtain⟨s1,s2⟩:=hSw;go_simp<;>(with_reducible rfl)
              simp only[pS];refine tkL 3 80 rfl rfl ?_ ?_ ?_;rotate_left
              · intro w hSw;obtain⟨s1,s2⟩:=hSw;go_simp<;>(with_reducible rfl)
              simp only[pS];refine tkL 4 81 rfl rfl ?_ ?_ ?_;rotate_left
              · intro w hSw;obtain⟨s1,s2⟩:=hSw;go_simp<;>(with_reducible rfl)
              simp only[pS];refine nxL 5 rfl (fun K hK=> ?_);go_simp
              go_wp2_with (go_at_call 214;refine(HAS.out _ (HL9.out.new HX.out.2 (below_drewA w9)).box.rd.pr.below).mono ?_;rintro en w10 ⟨hb10,pz,nz,cz,rfl,hnew⟩;have HN10:=yH hnew;have HL10:=yH ((HL9.out.new HX.out.2 (below_drewA w9)).new HX.out.2 hb10);have HB10:=yH ((hb10.block Bx (by have:=(gS.1 HW9.out).1;exact this)).trans HW9.out);have HS10:=yH hb10.size;clear hb10 hnew)
              refine hK.out _ _ ?_ ?_
              · exact .inr ⟨by rw[cell_plain (HCS.out _ _ _ HL10.out)];rfl,by rw[cell_plain HB10.out];rfl⟩
              clear hK K;refine nxL 6 rfl (fun K hK=> ?_);rw[HTA.out];refine wp_one elAssign (.tmp 82) rfl _ [.string ta,.slice pz nz cz] rfl (pair_cel _ _ _ _) rfl ?_;refine hK.out _ _ ?_ ?_
              · exact .inr ⟨by rw[cell_plain (HCS.out _ _ _ (HL10.out.new HX.out.2 (below_new w10 _)))];rfl,cell_alloc (by rw[cell_plain HB10.out];rfl) _⟩
              clear hK K;simp only[Act.put,List.getElem_toArray,List.getElem_cons_succ,List.getElem_cons_zero,pS];refine nxL 7 rfl (fun K hK=> ?_);refine wp_push elAssign (.tmp 79) (.tmp 83) rfl HL10.out.rowa (pair_cel _ _ _ _) (y:=a) (C:=w9.heap.size) ((HN10.out.imp fun W hW=>⟨_,by rw[←HTA.out];rfl,hW⟩)) HL9.out.box.lt (fun k hk=>(HL9.out.rowa.lt k (.inr hk)).2) (by have:=HL10.out.fewa;omega) (by rw[HNN.out.2.1];rfl) rfl HL10.out.box.lt ?_;intro p11 c11 F11 w11 hr11 hF11 hat11 hk11;have HS11:=yH (And.intro hr11 (And.intro hF11 (And.intro hat11 hk11)));have HB11:=yH (HL10.out.box.turn HX.out.2 HX.out.1 hk11 (fun k hk=>(HL10.out.rowa.lt k (.inr hk)).1))
              have HC11:=yH (show w11.cell? ⟨Y,5,none⟩=some (.slice pa na ca)∧w11.cell? ⟨Bx,0,none⟩=some (.slice p8 yl k8)from ⟨by rw[cell_plain HB11.out.box,←HNN.out.2.1];rfl,by
                have:=hk11.heap HB10.out (fun e=>by have:=(HL7.out.rowa.lt Bx (.inr e)).2;have:=HSZ8.out;omega)
                rw[cell_plain this];rfl⟩)
              clear hr11 hF11 hat11 hk11;refine hK.out _ _ ?_ ?_
              · exact .inr HC11.out
              clear hK K;simp only[Act.put,List.getElem_toArray,List.getElem_cons_succ,List.getElem_cons_zero,pS];refine nxL 8 rfl (fun K hK=> ?_);go_simp;refine hK.out _ _ ?_ ?_
              · exact .inr HC11.out
              clear hK K
              try simp only[Act.put,List.getElem_toArray,List.getElem_cons_succ,List.getElem_cons_zero,pS]
              refine nxL 9 rfl (fun K hK=> ?_);go_simp;refine hK.out _ _ ?_ ?_
              · exact .inr HC11.out
              clear hK K
              try simp only[Act.put,List.getElem_toArray,List.getElem_cons_succ,List.getElem_cons_zero,pS]
              refine nxL 10 rfl (fun K hK=> ?_);have d5:=HC11.out.1;have f5:w11.frozen? ⟨Y,5,none⟩=false:=frozen_plain HB11.out.box 5;go_simp;refine hK.out _ _ ?_ ?_
              · exact .inl (by kernel_rfl)
              clear hK K;refine doneL (by kernel_rfl) ?_ _;have hP:=HL10.out.pusha (by decide) HX.out.2 HX.out.1 (fun k hk=>(HL9.out.roww.lt k (.inr hk)).2) (fun k hk=>(HL9.out.rowr.lt k (.inr hk)).2) HS11.out.1 HS11.out.2.1 HS11.out.2.2.1 HS11.out.2.2.2;have HP:=yH hP;clear hP
              (try simp only[Exit.then])
              go_wp2_with fail
              go_roundw
              case rel=>exact⟨true,f,_,_,_,rfl,HP.out,by have h1:=HS.out.1;rw[simpleL_word HI.out HJ.out,HPM.out]at h1;exact h1,by have:=HS.out.2.1;have:=HLT.out;omega,fun h=>by cases h⟩
              case measure=>
                rw[HP.out.box.rd.pr.len,HL.out.box.rd.pr.len,HE0.out,take_err];have:=HLT.out;simp only[if_true]
                split<;>omega
            · have hnz:((nw:Int)==0)=false:=by
                have:¬(nw:Int)=0:=by omega
                simpa using this
              have hnz2:¬(nw:Int)=0:=by omega
              have HPM:=yH (show ParseMath.partM n S'=({ n with words:=n.words++ [ps] },S'.take)from by
                rw[part_more (fun e=>hn0 (by have:=HNN.out.1;rw[e]at this;exact this.symm)),HWS.out])
              clear hn0
              go_wp2_with (first
                |(refine wpList_one elWord (by rfl) (.tmp 90) (by rfl) _ [.slice p8 yl k8] rfl (slice_cel _ _ _) (by rfl) ?_)
                |(at_builtin;refine wpList_push elWord (by rfl) (.tmp 89) (.tmp 91) (by rfl) HL9.out.roww (slice_cel _ _ _) (y:=ps) (C:=w9.heap.size) (word_new HU8.out.1) HL9.out.box.lt (fun k hk=>(HL9.out.roww.lt k (.inr hk)).2) (by have:=HL9.out.feww;omega) (by rw[HNN.out.1];rfl) (by rfl) HL9.out.box.lt ?_;intro p11 c11 F11 w11 hr11 hF11 hat11 hk11;have hb11:=HL9.out.box.turn HX.out.2 HX.out.1 hk11 (fun k hk=>(HL9.out.roww.lt k (.inr hk)).1);have e3:w11.cell? ⟨Y,3,none⟩=some (.slice pw nw cw):=(by rw[cell_plain hb11.box,←HNN.out.1];rfl);have f3:=frozen_plain hb11.box 3;have HS11:=yH (And.intro hr11 (And.intro hF11 (And.intro hat11 hk11)));clear hr11 hF11 hat11 hk11 hb11))
              have hP:=HL9.out.pushw (by decide) HX.out.2 HX.out.1 (fun k hk=>(HL9.out.rowa.lt k (.inr hk)).2) (fun k hk=>(HL9.out.rowr.lt k (.inr hk)).2) HS11.out.1 HS11.out.2.1 HS11.out.2.2.1 HS11.out.2.2.2
              go_roundw
              case rel=>exact⟨true,f,_,_,_,rfl,hP,by have h1:=HS.out.1;rw[simpleL_word HI.out HJ.out,HPM.out]at h1;exact h1,by have:=HS.out.2.1;have:=HLT.out;omega,fun h=>by cases h⟩
              case measure=>
                rw[hP.box.rd.pr.len,HL.out.box.rd.pr.len,HE0.out,take_err];have:=HLT.out;simp only[if_true]
                split<;>omega
theorem qsimple_any {w0:World} (hT:Tabs w0) (w:World) (X:Nat) (S:PS) (h:Rr w0 w X S):Calls Tryz.prog 181 #[.pointer (some ⟨X,0,none⟩)] w fun e w'=> ∃t,TrAt w0 w w' e X t (simpleM S).2∧((simpleM S).2.err=0→t=(simpleM S).1):=by
  by_cases he:S.err=0
  · cases hb:(S.isWord||S.isRedir)with
    |true=>exact qsimple_good hT h he hb
    |false=>
      have:=Bool.or_eq_false_iff.1 hb;exact qsimple_bad h this.1 this.2
  · have:=dead_word h.good (h.dead he)
    exact qsimple_bad h this.1 this.2
theorem RrO.nd {w0 w:World} {X G c i a:Nat} {L:List Tk} (h:RrO w0 w X L G c i 0 a) (hk:(stR L i 0 a).hd.kind≠3):i+1<L.length∧(stR L i 0 a).take=stR L (i+1) 0 a∧w.cell? ⟨G,(i+1)*4,none⟩=some (.int .i64 (stR L (i+1) 0 a).hd.kind)∧w.cell? ⟨G,(i+1)*4+1,none⟩=some (.string (T (stR L (i+1) 0 a).hd.text)):=by
  have hg:=stR_good h.good h.lt (e:=0) h.few;have h2:=two_of hg hk
  have hl:i+1<L.length:=by
    have:(stR L i 0 a).ts.length=L.length-i:=(by simp[stR]);omega
  have e:(stR L i 0 a).take=stR L (i+1) 0 a:=by
    unfold PS.take;rw[if_neg hk];simp[stR]
  have h0:L[i+1]? =some (stR L (i+1) 0 a).hd:=by
    have:(stR L (i+1) 0 a).ts[0]? =L[i+1]? :=by
      show(L.drop (i+1))[0]? =_;rw[List.getElem?_drop,Nat.add_zero]
    rw[←this]
    rcases(stR_good h.good hl (e:=0) ⟨h.few.1,Nat.zero_le _⟩).hd with ⟨-,e⟩|⟨-, -,e⟩<;>rw[e]<;>rfl
  obtain⟨u,hu,ht,hcap⟩:=h.toks (i+1) _ h0;obtain⟨b,o',he,a0,a1,a2,a3⟩:=ht.below h.below;simp only[Option.some.injEq,Addr.mk.injEq,and_true]at he;obtain⟨rfl,rfl⟩:=he;rw[Nat.zero_add]at a0 a1;exact⟨hl,e,a0,a1⟩
theorem fn_cells {w0 W:World} {X G c i a N i1:Nat} {L:List Tk} {nk:Int} {nt:ByteArray} (h:RrO w0 W X L G c i 0 a) (hN:L.length=N) (hi:i+1=i1) (hk:(stR L i 0 a).hd.kind≠3) (hnk:(stR L i1 0 a).hd.kind=nk) (hnt:T (stR L i1 0 a).hd.text=nt):
    W.cell? ⟨X,0,none⟩=some (.slice (some ⟨G,0,none⟩) N c)∧W.cell? ⟨X,1,none⟩=some (.int .i64 (i:Int))∧W.cell? ⟨X,2,none⟩=some (.int .i64 0)∧W.cell? ⟨G,i1*4,none⟩=some (.int .i64 nk)∧W.cell? ⟨G,i1*4+1,none⟩=some (.string nt):=by
  subst hN hi hnk hnt;obtain⟨-, -,h3,h4⟩:=h.nd hk;refine⟨?_,?_,?_,h3,h4⟩<;>rw[cell_plain h.head]<;>rfl
theorem RdH.drew {w0 w W:World} {X:Nat} {S:PS} (h:RdH w0 w W X S) (hX:X<w.heap.size):RdH w0 w W.drew X S:=h.new hX (below_drewW (Below.refl _ W))
end Go.Proofs.YtcpmjkefbjbhpaaGreatDoor
