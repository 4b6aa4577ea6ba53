/-
  Proved: the contract of the statements' own Tokens, of a text. Conditions: at most 2000 bytes; the library's tables lie as they should.
-/
import Derived.Test.YtcpmjkefbjbhpaaGreatDoorSw44
import Derived.Deep.RegionWith
namespace Go.Proofs.YtcpmjkefbjbhpaaGreatDoor
open Go Go.RowKit GlyphMath LexMath
theorem sgT_ne {p:List Nat} (h:p≠ []):(sgT p).toList.isEmpty=false:=by
  rw[sgT_list]
  cases he:enc p with
  |nil=>exact absurd he (enc_ne h)
  |cons _ _=>rfl
theorem sign_ne:∀ {l:List (List Nat)} {xs p r:List Nat},(∀q∈l,q≠ [])→signM l xs=some (p,r)→p≠ []∧xs=p++r
  | [],_,_,_,_,h=>by cases h
  |q::l,xs,p,r,hl,h=>by
    rw[signM]at h
    cases ht:takes q xs with
    |some ys=>
      rw[ht]at h
      cases h
      exact⟨hl q (by simp),takes_length _ _ _ ht⟩
    |none=>
      rw[ht]at h;exact sign_ne (fun q hq=>hl q (by simp[hq])) h
theorem parts_38 {xs:List Nat} (h:next xs=38):partsM 20 xs= .ok ([],xs):=by
  show partsL (bracesM false (partsM 19)) (decide (19<19)) (xs.length+1) xs []=_;rw[partsL,if_pos (.inr (by rw[h];decide))]
theorem new_plain {w w':World} (hs:w.heap.size=w'.heap.size) (cs:Array Value) (t:TypeId):∀(j:Nat) (u:Value),cs.toList[j]? =some u→(w.alloc (.cells cs t)).cell? ((⟨w'.heap.size,0,none⟩:Addr).add j)=some u:=by
  intro j u hu;have:=prt_news (w:=w) cs t j u hu
  rwa [hs]at this
def LB (s:ByteArray):Obj:= .cells #[.string s,.int .i64 0,.int .i64 0] 94
set_option maxHeartbeats 8000000 in
set_option maxRecDepth 100000 in
theorem rtokens_in (s:ByteArray) (w:World) (hs:s.size≤2000) (ht:isText s=true) (hT:Tabs w):
    Calls Tryz.prog 20 #[.string s] w fun e w'=>TksEnd w w' e s.size (tokensL s.size ((letters s).length+1) (letters s) []):=by
  have HV:=yH (show _ from by have:=rvalid_any s w (by omega) hT;rw[ht]at this;exact this);have hsi:¬(2000:Int)<(s.size:Int):=(by omega);have HS:=yH hs;have HP:=yH (pos_begin ht);have HTB:=yH hT;have hfew:(letters s).length≤2000:=(by have:=letters_length s;omega);have HFW:=yH hfew;obtain⟨M,hM⟩:∃M,tokensL s.size ((letters s).length+1) (letters s) []=M:=⟨_,rfl⟩;rw[hM];have HM:=yH hM;obtain⟨P,hP⟩:∃P:Int,(place s:Int)=P:=⟨_,rfl⟩;rw[hP]at HV;clear hs ht hT hM hP hfew;go_enter Tryz.func20,Tryz.ntmps20;go_wp2_with fail;refine HV.out.mono ?_;rintro e w1 ⟨rfl,hb1⟩;have HB1:=yH hb1;have hg3:3<w1.heap.size:=Nat.lt_of_lt_of_le (World.block_lt_of_cell? w _ (HTB.out.1 0 (by decide))) hb1.size;have hg4:4<w1.heap.size:=Nat.lt_of_lt_of_le (World.block_lt_of_cell? w _ (HTB.out.2 0 (by decide)).1) hb1.size;have hx1:Lx (w1.alloc (LB s)) w1.heap.size s ((0:Nat):Int) 0:=⟨heap_alloc_new w1 (LB s),⟨(HTB.out.below hb1).kept (D:=fun _=>False) (Kept.of_below ((Below.refl _ w1).alloc (Nat.le_refl _) _)) (fun h=>h) (fun h=>h),hg3,hg4⟩⟩
  have hA0:LtAt w (w1.alloc (LB s)) w1.heap.size s M ((letters s).length+1) (letters s) (.slice none 0 0) [] (fun _=>False) []:=
    ⟨⟨0,hx1,HP.out⟩,TokO.nil _ _ _,hb1.alloc hb1.size _,hb1.size,HM.out,Nat.lt_succ_self _,by have:=HFW.out;simp;omega⟩
  obtain⟨X,hX⟩:∃X,w1.heap.size=X:=⟨_,rfl⟩;rw[hX]at hA0;have HA0:=yH hA0;clear hb1 hg3 hg4 hx1 hA0;go_wp2_with fail;clear hX
  go_loopw [8] (fun v wr=> ∃f ys us F ts,LtAt w wr X s M f ys v us F ts) (fun _ wr=>toGo wr X s.size)
  case atStart=>exact⟨_,_,_,_,_,HA0.out⟩
  case round=>
    obtain⟨f,ys,us,F,ts,hA⟩:=hrel;obtain⟨f,rfl⟩:∃g,f=g+1:=⟨f-1,by have:=hA.fuel;omega⟩;obtain⟨a,c,hv⟩:=hA.row.shape;subst hv;have HA:=yH hA;obtain⟨k,hk⟩:∃k,ts.length=k:=⟨_,rfl⟩;have HK:=yH hk;rw[hk];have hk4:k≤4000:=(by have:=hA.few;omega);have HK4:=yH hk4;obtain⟨i,hl,hp⟩:=hA.lex;have HL:=yH (And.intro hl hp);have c1:=hl.c1;have f1:=hl.fz 1;have hple:=hp.le;have hsz:=HS.out;have hi2:(i:Int)≤2000:=(by omega);have hfb:=hp.fbn
    cases ys with
    |nil=>
      have hend:=hp.len;simp only[enc,List.length_nil]at hend;have hlt:¬(i:Int)<(s.size:Int):=(by omega)
      have hMM:M= .ok (ts++ [⟨3,[],[],s.size⟩]):=by
        rw[←hA.said,tokensL_end (show skipM []= []from rfl)]
      have HMM:=yH hMM;have HO:=yH (show ∀o1,(wr.alloc o1).ownsRow (X+1) 53 4 (.slice a k c) k (tokCells ts us)from fun o1=>by rw[←hk];exact hA.row.own.alloc o1);have hXl:=hl.lt;have HZ:=yH (show ∀o1,X+1≤(wr.alloc o1).heap.size∧(wr.alloc o1).heap.size=wr.heap.size+1 from fun o1=>⟨by simp;omega,by simp⟩);clear hA hk hk4 hl hp hple hsz hfb hend hMM hXl
      go_wp2_with (at_builtin;refine tok_append rfl _ _ rfl (X+1) _ k _ rfl (HO.out _) ⟨wr.heap.size,0,none⟩ _ _ _ _ rfl (prt_news _ _) (by intro x hx;simp at hx;rcases hx with rfl|rfl|rfl|rfl<;>rfl) HK4.out (HZ.out _).1 (wr.heap.size+1) (HZ.out _).2 ?_;intro g cap w7 hown7 hg7 hat7 _;have H7:=yH (And.intro hown7 (And.intro hg7 hat7));clear hown7 hg7 hat7)
      go_ret3
      obtain⟨k1,k2,us',F',k3⟩:=HA.out.more (Kept.refl _ wr) ⟨i,HL.out⟩ HK.out (by rw[HK.out];rfl) (t:=⟨3,[],[],s.size⟩) (WordN.nil wr wr.heap.size) (Nat.le_refl _) rfl H7.out.1 H7.out.2.1 H7.out.2.2;rw[HMM.out];exact⟨_,X,us',F',rfl,k3.weaken (by have:=HA.out.hX;omega),k2⟩
    |cons ch r=>
      have hlt:(i:Int)<(s.size:Int):=by
        have hh:=hp.len;have h1:=eb_length ch;simp only[enc,List.length_append]at hh;omega
      obtain⟨b,hb⟩:∃b,fbn (ch::r)=b:=⟨_,rfl⟩;rw[hb]at hfb
      have hix:∀W,(Instr.index 9 (.string s) (.int .i64 (i:Int))).run Tryz.prog W= .ok (.int .u8 (b:Int)) W:=fun W=>by
        rw[run_index_string W 9 s .i64 _ Tryz.underlying9,dif_pos ⟨by omega,hlt⟩,←hfb,byteAt_in (show i<s.size by omega)];simp only[show (i:Int).toNat=i by omega]
      have hi0:(0:Int)≤(i:Int):=by omega
      by_cases hbl:b=32∨b=9
      · -- a blank
        have hch:ch=32∨ch=9:=by
          rcases hbl with e|e
          · left;exact(fbn_iff hp.good (by decide)).1 (hb.trans e)
          · right;exact(fbn_iff hp.good (by decide)).1 (hb.trans e)
        have hsm:=hA.said;rw[tokensL_same (skip_blank hch)]at hsm;have hp2:=hp.fbn1 (show ch<128 by rcases hch with rfl|rfl<;>decide);have hl2:Lx (wr.setCell ⟨X,1,none⟩ (.int .i64 ((i:Int)+1))) X s ((i+1:Nat):Int) 0:=hl.put1 _;have hk2:=Kept.setCell (D:=fun k=>k=X) (Kept.refl _ wr) (p:=⟨X,1,none⟩) (.inl rfl) (.int .i64 ((i:Int)+1))
        have HN:=yH (show LtAt w (wr.setCell ⟨X,1,none⟩ (.int .i64 ((i:Int)+1))) X s M (f+1) r (.slice a ts.length c) us F ts from
          ⟨⟨_,hl2,hp2⟩,hA.row.kept hk2 (fun i _ _ hne e=>hne e),below_kept hA.below hk2 (fun j e=>by have:=hA.hX;omega) hA.below.size,hA.hX,hsm,by have:=hA.fuel;simp only[List.length_cons]at this;omega,by have:=hA.few;simp only[List.length_cons]at this;omega⟩)
        have HT1:=yH (show toGo (wr.setCell ⟨X,1,none⟩ (.int .i64 ((i:Int)+1))) X s.size<toGo wr X s.size from by
          rw[(show LexAt _ X s r from⟨_,hl2,hp2⟩).toGo,hA.lex.toGo];have:=enc_less (show Less (ch::r) r from⟨⟨[ch],rfl⟩,by simp⟩)
          omega)
        have htest:((b:Int)==32)=true∨(((b:Int)==32)=false∧((b:Int)==9)=true):=by
          rcases hbl with rfl|rfl
          · exact .inl rfl
          · exact .inr ⟨rfl,rfl⟩
        rw[hk]at HN;clear hA hk hk4 hl hp hple hsz hfb hbl hch hsm hp2 hl2 hk2 hb
        rcases htest with y|⟨y,y2⟩
        · go_wp2_with fail
          exact⟨⟨_,_,_,_,_,HN.out⟩,HT1.out⟩
        · go_wp2_with fail
          exact⟨⟨_,_,_,_,_,HN.out⟩,HT1.out⟩
      · have y32:((b:Int)==32)=false:=rne fun e=>hbl (.inl e)
        have y9:((b:Int)==9)=false:=rne fun e=>hbl (.inr e)
        by_cases h35:b=35
        · -- a remark
          subst h35;obtain rfl:ch=35:=(fbn_iff hp.good (by decide)).1 hb;have HRUN:=yH (fun j hj=>hp.run (k:=10) (by decide) j hj);have hend:=hp.run_end (fun r=>r==10);have hhead:=left_head (fun r=>r==10) (35::r);have hsm:=hA.said;rw[tokensL_same (show skipM (35::r)=skipM (left (fun r=>r==10) (35::r)) by rw[skip_hash,skip_line])]at hsm;have hlen:=got_length (fun r=>r==10) (35::r);have hgot:0<(got (fun r=>r==10) (35::r)).length:=(by rw[got];simp);obtain⟨zs,hzs⟩:∃zs,left (fun r=>r==10) (35::r)=zs:=⟨_,rfl⟩;rw[hzs]at hend hhead hsm hlen;have hless:Less (35::r) zs:=⟨by rw[←hzs];exact Suf.left _ _,by omega⟩;obtain⟨L,hL⟩:∃L,(enc (got (fun r=>r==10) (35::r))).length=L:=⟨_,rfl⟩;rw[hL]at HRUN hend;have hiL:(i:Int)+(L:Int)≤(s.size:Int):=(by have:=hend.le;omega);have HE:=yH (And.intro hend (And.intro hhead hless))
          have HN:=yH (show ∀wz,LexAt wz X s zs→Kept (fun k=>k=X) wr wz→(∃f ys us F ts,LtAt w wz X s M f ys (.slice a k c) us F ts)∧toGo wz X s.size<toGo wr X s.size from fun wz h1 h2=>by
            refine⟨⟨f+1,zs,us,F,ts,h1,by rw[←hk];exact hA.row.kept h2 (fun i _ _ hne e=>hne e),below_kept hA.below h2 (fun j e=>by have:=hA.hX;omega) hA.below.size,hA.hX,hsm,by have:=hA.fuel;have:=hless.2;omega,by have:=hA.few;have:=hless.2;omega⟩,?_⟩;rw[h1.toGo,hA.lex.toGo];have:=enc_less hless
            omega)
          clear hA hk hk4 hp hple hsz hfb hbl hsm hb hend hhead hlen hgot hzs hless hL hl;go_wp2_with fail
          go_loopw [] (fun wz=> ∃(kk:Nat) (wn:World),wn=wz∧Lx wn X s ((i+kk:Nat):Int) 0∧kk≤L∧Kept (fun k=>k=X) wr wn) (fun wz=>toEnd wz X s.size)
          case atStart=>exact⟨0,_,rfl,HL.out.1,Nat.zero_le _,Kept.refl _ _⟩
          case round=>
            obtain⟨kk,wz,rfl,hlz,hkL,hkz⟩:=hrel;have c1:=hlz.c1;have f1:=hlz.fz 1;have HZ:=yH (And.intro hlz (And.intro hkL hkz));obtain⟨j,hj⟩:∃j:Nat,i+kk=j:=⟨_,rfl⟩;rw[hj]at c1;have hsz:=HS.out;have hj0:(0:Int)≤(j:Int):=(by omega);have hj2:(j:Int)≤2000:=(by omega)
            have hstep:∀b':Nat,j<s.size→byteAt s j=b'→∀W,(Instr.index 9 (.string s) (.int .i64 (j:Int))).run Tryz.prog W= .ok (.int .u8 (b':Int)) W:=fun b' hjs hb' W=>by
              rw[run_index_string W 9 s .i64 _ Tryz.underlying9,dif_pos ⟨by omega,by omega⟩,←hb',byteAt_in hjs];simp only[show (j:Int).toNat=j by omega]
            by_cases hlt2:kk<L
            · obtain⟨g1, -,g3⟩:=HRUN.out kk hlt2
              rw[hj]at g1 g3;obtain⟨b',hb'⟩:∃b',byteAt s j=b':=⟨_,rfl⟩;rw[hb']at g1;have hix2:=hstep b' g3 hb'
              have y10:((b':Int) !=10)=true:=by
                have:¬(b':Int)=10:=by omega
                simpa using this
              have hjlt:(j:Int)<(s.size:Int):=(by omega);have HG:=yH (And.intro hlt2 (And.intro hj g3));clear hlz hkL hkz hj hsz hstep hlt2 g1 g3 hb' hlt;go_wp2_with fail
              have hl2:Lx (wz.setCell ⟨X,1,none⟩ (.int .i64 ((j:Int)+1))) X s ((i+(kk+1):Nat):Int) 0:=by
                have h1:=HZ.out.1.put1 ((j:Int)+1);rw[show ((i+(kk+1):Nat):Int)=(j:Int)+1 by have:=HG.out.2.1;omega];exact h1
              refine⟨⟨kk+1,_,rfl,hl2,HG.out.1,Kept.setCell (D:=fun k=>k=X) HZ.out.2.2 (.inl rfl) _⟩,?_⟩;rw[hl2.toEnd,HZ.out.1.toEnd];have:=HG.out.2;omega
            · obtain rfl:kk=L:=by omega
              have hfb2:=HE.out.1.fbn;rw[hj]at hfb2;have hfin:=HN.out wz ⟨i+kk,hlz,HE.out.1⟩ hkz;have HFIN:=yH hfin;have hl3:=HE.out.1.len;rw[hj]at hl3
              cases zs with
              |nil=>
                simp only[enc,List.length_nil]at hl3;have hjlt:¬(j:Int)<(s.size:Int):=(by omega);clear hlz hkL hkz hj hsz hstep hlt2 hfb2 hfin hl3 hlt hiL;go_wp2_with fail;exact HFIN.out
              |cons x z=>
                have hx:x=10:=by
                  rcases HE.out.2.1 with e|e
                  · cases e
                  · simpa [next]using e
                subst hx
                have hj3:j<s.size:=by
                  have h1:=eb_length 10;simp only[enc,List.length_append]at hl3;omega
                have hix2:=hstep 10 hj3 hfb2;have hjlt:(j:Int)<(s.size:Int):=(by omega);clear hlz hkL hkz hj hsz hstep hlt2 hfb2 hfin hl3 hlt hiL hj3;go_wp2_with fail;exact HFIN.out
        · have y35:((b:Int)==35)=false:=rne h35
          have hc:ch≠32∧ch≠9∧ch≠35:=by
            have e:=fun k (hk:k<128)=>(fbn_iff hp.good hk).2;exact⟨fun e2=>hbl (.inl (by rw[←hb];exact e 32 (by decide) e2)),fun e2=>hbl (.inr (by rw[←hb];exact e 9 (by decide) e2)),fun e2=>h35 (by rw[←hb];exact e 35 (by decide) e2)⟩
          have hsk:skipM (ch::r)=ch::r:=skip_at hc.1 hc.2.1 hc.2.2;have hn:s.size-(enc (ch::r)).length=i:=(by have:=hp.len;omega);obtain⟨ys,hys⟩:∃ys,ch::r=ys:=⟨_,rfl⟩;have hyne:ys≠ []:=(by rw[←hys];simp);have hnx:next ys≠32∧next ys≠9:=(by rw[←hys];exact⟨hc.1,hc.2.1⟩);rw[hys]at hA HA HL hp hsk hn
          have HBAD:=yH (show ∀cc,tokenM i ys= .error cc→M= .error (i,cc)from fun cc h=>by
            rw[←hA.said,tokensL_bad (by rw[hsk];exact hyne) (by rw[hsk,hn];exact h),hsk,hn])
          have HGO:=yH (show ∀t rr,tokenM i ys= .ok (t,rr)→tokensL s.size f rr (ts++ [t])=M∧Less ys rr from fun t rr h=>
            ⟨by rw[←hA.said,tokensL_go (by rw[hsk];exact hyne) (by rw[hsk,hn];exact h)],(token_less hp.good hyne hnx.1 hnx.2 h).1⟩)
          have HSG:=yH (rsign_any (show LexAt wr X s ys from⟨i,hl,hp⟩) hsz);obtain⟨P,hP⟩:∃P,signT ys=P:=⟨_,rfl⟩;rw[hP]at HSG;have HPP:=yH hP;have HYN:=yH (And.intro hyne hnx);clear hP hc hsk hn hys hyne hnx hbl h35 hb hfb;go_wp2_with fail;refine HSG.out.mono ?_;rintro e w3 ⟨rfl,hk3⟩;have hl3:=HL.out.1.kept hk3 (fun _ _ h=>h);have hkk3:Kept (fun k=>k=X) wr (w3.alloc (.cells #[.int .i64 2,.string P,.slice none 0 0,.int .i64 (i:Int)] 53)):=(hk3.mono fun _ _ h=>h.elim).alloc _;have hl4:Lx (w3.alloc (.cells #[.int .i64 2,.string P,.slice none 0 0,.int .i64 (i:Int)] 53)) X s (i:Int) 0:=hl3.kept (D:=fun _=>False) ((Kept.refl _ w3).alloc _) (fun _ _ h=>h);have hb4:(w3.alloc (.cells #[.int .i64 2,.string P,.slice none 0 0,.int .i64 (i:Int)] 53)).heap[w3.heap.size]? =some (.cells #[.int .i64 2,.string P,.slice none 0 0,.int .i64 (i:Int)] 53 (0,0)):=heap_alloc_new w3 _;have htb:wr.heap.size≤w3.heap.size:=hk3.size;go_wp2_with fail;obtain⟨w4,hw4⟩:∃w4,w3.alloc (.cells #[.int .i64 2,.string P,.slice none 0 0,.int .i64 (i:Int)] 53)=w4:=⟨_,rfl⟩;obtain⟨tb,htbe⟩:∃tb,w3.heap.size=tb:=⟨_,rfl⟩;rw[hw4]at hkk3 hl4 hb4;rw[htbe]at hb4 htb;rw[hw4,htbe];clear hw4 htbe hk3 hl3;have hXl:=HL.out.1.lt;have n1:¬tb=X:=(by omega);have n2:¬X=tb:=(by omega);clear c1 f1;have c1:w4.drew.cell? ⟨X,1,none⟩=some (.int .i64 (i:Int)):=hl4.c1;have c1b:=hl4.c1;have c2:=hl4.c2;have f1:=hl4.fz 1;have f1b:w4.drew.frozen? ⟨X,1,none⟩=false:=hl4.fz 1;have d0:w4.cell? ⟨tb,0,none⟩=some (.int .i64 2):=(by rw[cell_plain hb4];rfl);have d1:w4.cell? ⟨tb,1,none⟩=some (.string P):=(by rw[cell_plain hb4];rfl);have d2:w4.cell? ⟨tb,2,none⟩=some (.slice none 0 0):=(by rw[cell_plain hb4];rfl);have d3:w4.cell? ⟨tb,3,none⟩=some (.int .i64 (i:Int)):=(by rw[cell_plain hb4];rfl);have d1b:w4.drew.cell? ⟨tb,1,none⟩=some (.string P):=d1;have H4:=yH (And.intro hkk3 (And.intro hl4 (And.intro hb4 (And.intro htb hXl))));clear hkk3 hl4 hb4 htb hXl
          cases hsg:signM signs ys with
          |some a=>
            obtain⟨p,rr⟩:=a;obtain⟨hpne,hpr⟩:=sign_ne (l:=signs) (by decide) hsg;have hPs:P=sgT p:=(by rw[←HPP.out,signT,hsg]);have hPe:P.toList.isEmpty=false:=(by rw[hPs];exact sgT_ne hpne);have hPl:(sgT p).size=(enc p).length:=sgT_size p
            have hpass:Pos s (i+P.size) rr:=by
              have h1:=HL.out.2;rw[hpr]at h1;rw[hPs,hPl];exact h1.pass
            have hle9:=hpass.le;have e1:IntKind.i64.wrap ((i:Int)+(P.size:Int))=(i:Int)+(P.size:Int):=IntWalk.i64_in _ ⟨by omega,by omega⟩;have htk:tokenM i ys= .ok (⟨2,enc p,[],i⟩,rr):=(by unfold tokenM;rw[hsg]);have HTK:=yH (HGO.out _ _ htk);have HPS:=yH (And.intro hPs hpass);clear hpne hpr hPs hPl hpass hle9 htk hsg hl hp hple hsz hlt hA;have hk5:Kept (fun k=>k=X) wr (w4.setCell ⟨X,1,none⟩ (.int .i64 ((i:Int)+(P.size:Int)))).drew:=(H4.out.1.setCell (.inl rfl) _).drew;have hl5:LexAt (w4.setCell ⟨X,1,none⟩ (.int .i64 ((i:Int)+(P.size:Int)))).drew X s rr:=(show LexAt (w4.setCell ⟨X,1,none⟩ (.int .i64 ((i:Int)+(P.size:Int)))) X s rr from⟨i+P.size,by rw[Int.natCast_add];exact H4.out.2.1.put1 _,HPS.out.2⟩).drew;have hrow5:=HA.out.row.kept hk5 (fun i _ _ hne e=>hne e);have hown5:=hrow5.own;rw[HK.out]at hown5;have HO:=yH (show ∀o1,((w4.setCell ⟨X,1,none⟩ (.int .i64 ((i:Int)+(P.size:Int)))).alloc o1).drew.ownsRow (X+1) 53 4 (.slice a k c) k (tokCells ts us)from fun o1=>hown5.alloc o1);have hs5:(w4.setCell ⟨X,1,none⟩ (.int .i64 ((i:Int)+(P.size:Int)))).heap.size=w4.heap.size:=(by simp[World.setCell]);have HNEW:=yH (new_drew hs5 #[.int .i64 2,.string P,.slice none 0 0,.int .i64 (i:Int)] 53);have hX4:X<w4.heap.size:=H4.out.2.1.lt
            have HZ:=yH (show ∀o1,X+1≤((w4.setCell ⟨X,1,none⟩ (.int .i64 ((i:Int)+(P.size:Int)))).alloc o1).drew.heap.size∧((w4.setCell ⟨X,1,none⟩ (.int .i64 ((i:Int)+(P.size:Int)))).alloc o1).drew.heap.size=w4.heap.size+1 from fun o1=>by
              have h1:((w4.setCell ⟨X,1,none⟩ (.int .i64 ((i:Int)+(P.size:Int)))).alloc o1).drew.heap.size=w4.heap.size+1:=by show((w4.setCell ⟨X,1,none⟩ (.int .i64 ((i:Int)+(P.size:Int)))).alloc o1).heap.size=_;simp[World.setCell]
              exact⟨by omega,h1⟩)
            have H5:=yH (And.intro hk5 hl5);clear hk5 hl5 hrow5 hown5 hs5 hX4
            go_region_with (fail)
            all_goals
              go_wp2_with (at_builtin;refine tok_append rfl _ _ rfl (X+1) _ k _ rfl (HO.out _) ⟨w4.heap.size,0,none⟩ _ _ _ _ rfl HNEW.out (by intro x hx;simp at hx;rcases hx with rfl|rfl|rfl|rfl<;>rfl) HK4.out (HZ.out _).1 (w4.heap.size+1) (HZ.out _).2 ?_;intro g cap w7 hown7 hg7 hat7 _;have H7:=yH (And.intro hown7 (And.intro hg7 hat7));clear hown7 hg7 hat7)
              obtain⟨k1,k2,us',F',k3⟩:=HA.out.more H5.out.1 H5.out.2 HK.out (by rw[HK.out];rfl) (t:=⟨2,enc p,[],i⟩) (WordN.nil _ _) (C:=wr.heap.size) (Nat.le_refl _) (by rw[HPS.out.1];rfl) H7.out.1 H7.out.2.1 (by have h:=H7.out.2.2;rw[show (w4.setCell ⟨X,1,none⟩ (.int .i64 ((i:Int)+(P.size:Int)))).drew.heap.size=w4.heap.size by show(w4.setCell ⟨X,1,none⟩ (.int .i64 ((i:Int)+(P.size:Int)))).heap.size=_;simp[World.setCell]];exact h);exact HA.out.next k1 k2 k3 HTK.out.1 HTK.out.2
          |none=>
            have HSI:=yH hsg;obtain rfl:P=⟨#[]⟩:=(by rw[←HPP.out,signT,hsg]);have e1:IntKind.i64.wrap (i:Int)=(i:Int):=IntWalk.i64_in _ ⟨by omega,by omega⟩;have hk5:Kept (fun k=>k=X) wr ((w4.setCell ⟨X,1,none⟩ (.int .i64 (i:Int))).drew):=(H4.out.1.setCell (.inl rfl) _).drew;have hl5:LexAt ((w4.setCell ⟨X,1,none⟩ (.int .i64 (i:Int))).drew) X s ys:=(show LexAt (w4.setCell ⟨X,1,none⟩ (.int .i64 (i:Int))) X s ys from⟨i,H4.out.2.1.put1 _,HL.out.2⟩).drew;have hb5:((w4.setCell ⟨X,1,none⟩ (.int .i64 (i:Int))).drew).heap[tb]? =some (.cells #[.int .i64 2,.string ⟨#[]⟩,.slice none 0 0,.int .i64 (i:Int)] 53 (0,0)):=(Below.heap_setCell w4 ⟨X,1,none⟩ _ tb n1).trans H4.out.2.2.1;have H5:=yH (And.intro hk5 (And.intro hl5 hb5));have HPA:=yH (rparts_all hl5 HS.out);obtain⟨D,hD⟩:∃D,partsM 20 ys=D:=⟨_,rfl⟩;rw[hD]at HPA;have HD:=yH hD;clear hk5 hl5 hb5 hD hsg hl hp hple hsz hlt hA
            go_region_with (fail)
            all_goals
              go_wp2_with fail;refine HPA.out.mono ?_;intro e w6 hE;clear c1 c1b c2 f1 f1b d0 d1 d2 d3 d1b
              cases D with
              |error cc=>
                obtain⟨⟨a3,n3,k3,rfl⟩,hle,hk6⟩:=hE;have hb6:w6.heap[tb]? =some (.cells #[.int .i64 2,.string ⟨#[]⟩,.slice none 0 0,.int .i64 (i:Int)] 53 (0,0)):=hk6.heap H5.out.2.2 n1;have g0:w6.cell? ⟨tb,0,none⟩=some (.int .i64 2):=(by rw[cell_plain hb6];rfl);have g1:w6.cell? ⟨tb,1,none⟩=some (.string ⟨#[]⟩):=(by rw[cell_plain hb6];rfl);have g2:w6.cell? ⟨tb,2,none⟩=some (.slice none 0 0):=(by rw[cell_plain hb6];rfl);have g3:w6.cell? ⟨tb,3,none⟩=some (.int .i64 (i:Int)):=(by rw[cell_plain hb6];rfl);have hfz:=fun o=>frozen_plain hb6 o;have z0:=hfz 0;have z1:=hfz 1;have z2:=hfz 2;have z3:=hfz 3;have hkw:Kept (fun k=>k=X) wr w6:=H5.out.1.on hk6;have htb:=H4.out.2.2.2.1;have hk7:Kept (fun k=>k=tb) w6 ((((w6.setCell ⟨tb,0,none⟩ (.int .i64 1)).setCell ⟨tb,1,none⟩ (.string ⟨#[]⟩)).setCell ⟨tb,2,none⟩ (.slice a3 n3 k3)).setCell ⟨tb,3,none⟩ (.int .i64 (i:Int))):=four_kept (Kept.refl (fun k=>k=tb) w6) (.inl rfl) _ _ _ _;have hbel:=(below_kept (below_kept HA.out.below hkw (fun j e=>by have:=HA.out.hX;omega) HA.out.below.size) hk7 (fun j e=>by have:=HA.out.below.size;omega) (by have:=HA.out.below.size;have:=hkw.size;omega));obtain⟨hcc,j,hlj⟩:=hle;have hl7:=hlj.kept hk7 (fun k hk e=>by have:=H4.out.2.2.2.2;omega);have b1:=hlj.c1;have b2:=hlj.c2;have HFY:=yH (rfail_yes hl7 (show((cc:Int)==0)=false by rcases hcc with rfl|rfl<;>rfl) 2)
                have hc0:((cc:Int) !=0)=true:=by rcases hcc with rfl|rfl<;>rfl
                have hn38:next ys≠38:=fun e=>(by rw[parts_38 e]at HD;exact absurd HD.out (by simp));have hME:=HBAD.out cc (by unfold tokenM;rw[HSI.out];dsimp only;rw[if_neg hn38,HD.out]);have H6:=yH (And.intro hbel (And.intro hcc hME));clear hb6 hfz hkw htb hk7 hbel hl7 hlj hk6 hcc hn38 hME
                cases hji:(j==(i:Int))with
                |true=>
                  go_wp2_with fail;refine HFY.out.mono ?_;rintro e w8 ⟨rfl,rfl⟩;go_wp2_with fail
                  go_quiet (fail)
                  go_wp2_with fail
                  go_ret3
                  rw[H6.out.2.2];exact⟨H6.out.2.1,rfl,⟨H6.out.1.os,H6.out.1.tape,H6.out.1.output,H6.out.1.size,H6.out.1.block⟩⟩
                |false=>
                  go_wp2_with fail
                  go_quiet (fail)
                  go_wp2_with fail
                  go_ret3
                  rw[H6.out.2.2];exact⟨H6.out.2.1,rfl,⟨H6.out.1.os,H6.out.1.tape,H6.out.1.output,H6.out.1.size,H6.out.1.block⟩⟩
              |ok pr=>
                obtain⟨ps,rr⟩:=pr;obtain⟨v3,rfl,hwn,hle,hk6⟩:=hE;obtain⟨a3,n3,k3,rfl⟩:=wordN_shape hwn;have hb6:w6.heap[tb]? =some (.cells #[.int .i64 2,.string ⟨#[]⟩,.slice none 0 0,.int .i64 (i:Int)] 53 (0,0)):=hk6.heap H5.out.2.2 n1;have g0:w6.cell? ⟨tb,0,none⟩=some (.int .i64 2):=(by rw[cell_plain hb6];rfl);have g1:w6.cell? ⟨tb,1,none⟩=some (.string ⟨#[]⟩):=(by rw[cell_plain hb6];rfl);have g2:w6.cell? ⟨tb,2,none⟩=some (.slice none 0 0):=(by rw[cell_plain hb6];rfl);have g3:w6.cell? ⟨tb,3,none⟩=some (.int .i64 (i:Int)):=(by rw[cell_plain hb6];rfl);have hfz:=fun o=>frozen_plain hb6 o;have z0:=hfz 0;have z1:=hfz 1;have z2:=hfz 2;have z3:=hfz 3;have hkw:Kept (fun k=>k=X) wr w6:=H5.out.1.on hk6;have htb:=H4.out.2.2.2.1;have hk7:Kept (fun k=>k=tb) w6 ((((w6.setCell ⟨tb,0,none⟩ (.int .i64 1)).setCell ⟨tb,1,none⟩ (.string ⟨#[]⟩)).setCell ⟨tb,2,none⟩ (.slice a3 n3 k3)).setCell ⟨tb,3,none⟩ (.int .i64 (i:Int))):=four_kept (Kept.refl (fun k=>k=tb) w6) (.inl rfl) _ _ _ _;obtain⟨j,hlj,hpj⟩:=hle;have hl7:=hlj.kept hk7 (fun k hk e=>by have:=H4.out.2.2.2.2;omega);have b1:=hlj.c1;have b2:=hlj.c2
                by_cases h38:next ys=38
                · have hbel:=(below_kept (below_kept HA.out.below hkw (fun j e=>by have:=HA.out.hX;omega) HA.out.below.size) hk7 (fun j e=>by have:=HA.out.below.size;omega) (by have:=HA.out.below.size;have:=hkw.size;omega))
                  have hrr:rr=ys:=by
                    have e:=HD.out;rw[parts_38 h38]at e;exact(congrArg Prod.snd (Except.ok.inj e)).symm
                  subst hrr;obtain rfl:j=i:=(by have h1:=hpj.len;have h2:=HL.out.2.len;omega);have HFN:=yH (rfail_no hl7 2);have hME:=HBAD.out 2 (by unfold tokenM;rw[HSI.out];dsimp only;rw[if_pos h38]);have H6:=yH (And.intro hbel hME);clear hb6 hfz hkw htb hk7 hbel hl7 hlj hpj hk6 hwn hME h38;go_wp2_with fail;refine HFN.out.mono ?_;rintro e w8 ⟨rfl,hl8,hk8⟩;have m2:=hl8.c2;have H8:=yH hk8;clear hl8 hk8;go_wp2_with fail
                  go_quiet (fail)
                  go_wp2_with fail
                  go_ret3
                  rw[H6.out.2];exact⟨.inl rfl,rfl,below_kept H6.out.1 (H8.out.drewN _) (fun j e=>by have:=HA.out.hX;omega) H6.out.1.size⟩
                · have htk:tokenM i ys= .ok (⟨1,[],ps,i⟩,rr):=by unfold tokenM;rw[HSI.out];dsimp only;rw[if_neg h38,HD.out]
                  obtain⟨hm9,hless⟩:=HGO.out _ _ htk
                  have hji:((j:Int)==(i:Int))=false:=by
                    have h1:=hpj.len;have h2:=HL.out.2.len;have h3:=enc_less hless;exact rne (by omega)
                  have hwn7:=(hwn.kept hk7 fun k hk e=>by have h1:=H5.out.1.size;have h2:=(gS.1 H5.out.2.2).1;omega);have hk57:Kept (fun k=>k=X∨k=tb) wr ((((w6.setCell ⟨tb,0,none⟩ (.int .i64 1)).setCell ⟨tb,1,none⟩ (.string ⟨#[]⟩)).setCell ⟨tb,2,none⟩ (.slice a3 n3 k3)).setCell ⟨tb,3,none⟩ (.int .i64 (i:Int))):=(hkw.mono fun _ _ h=> .inl h).on (hk7.mono fun _ _ h=> .inr h);have hk9:Kept (fun k=>k=X) wr ((((w6.setCell ⟨tb,0,none⟩ (.int .i64 1)).setCell ⟨tb,1,none⟩ (.string ⟨#[]⟩)).setCell ⟨tb,2,none⟩ (.slice a3 n3 k3)).setCell ⟨tb,3,none⟩ (.int .i64 (i:Int))):=hk57.mono fun k hk h=>h.elim id fun h=>(by omega);have hl9:LexAt ((((w6.setCell ⟨tb,0,none⟩ (.int .i64 1)).setCell ⟨tb,1,none⟩ (.string ⟨#[]⟩)).setCell ⟨tb,2,none⟩ (.slice a3 n3 k3)).setCell ⟨tb,3,none⟩ (.int .i64 (i:Int))) X s rr:=⟨j,hl7,hpj⟩;have hrow9:=HA.out.row.kept hk9 (fun i _ _ hne e=>hne e);have hown9:=hrow9.own;rw[HK.out]at hown9;have HO:=yH (show ∀o1,(((((w6.setCell ⟨tb,0,none⟩ (.int .i64 1)).setCell ⟨tb,1,none⟩ (.string ⟨#[]⟩)).setCell ⟨tb,2,none⟩ (.slice a3 n3 k3)).setCell ⟨tb,3,none⟩ (.int .i64 (i:Int))).alloc o1).ownsRow (X+1) 53 4 (.slice a k c) k (tokCells ts us)from fun o1=>hown9.alloc o1);have hs9:((((w6.setCell ⟨tb,0,none⟩ (.int .i64 1)).setCell ⟨tb,1,none⟩ (.string ⟨#[]⟩)).setCell ⟨tb,2,none⟩ (.slice a3 n3 k3)).setCell ⟨tb,3,none⟩ (.int .i64 (i:Int))).heap.size=w6.heap.size:=(by simp[World.setCell]);have HNEW:=yH (new_plain hs9 #[.int .i64 1,.string ⟨#[]⟩,.slice a3 n3 k3,.int .i64 (i:Int)] 53);have hX6:X<w6.heap.size:=hlj.lt
                  have HZ:=yH (show ∀o1,X+1≤(((((w6.setCell ⟨tb,0,none⟩ (.int .i64 1)).setCell ⟨tb,1,none⟩ (.string ⟨#[]⟩)).setCell ⟨tb,2,none⟩ (.slice a3 n3 k3)).setCell ⟨tb,3,none⟩ (.int .i64 (i:Int))).alloc o1).heap.size∧(((((w6.setCell ⟨tb,0,none⟩ (.int .i64 1)).setCell ⟨tb,1,none⟩ (.string ⟨#[]⟩)).setCell ⟨tb,2,none⟩ (.slice a3 n3 k3)).setCell ⟨tb,3,none⟩ (.int .i64 (i:Int))).alloc o1).heap.size=w6.heap.size+1 from fun o1=>by
                    have h1:(((((w6.setCell ⟨tb,0,none⟩ (.int .i64 1)).setCell ⟨tb,1,none⟩ (.string ⟨#[]⟩)).setCell ⟨tb,2,none⟩ (.slice a3 n3 k3)).setCell ⟨tb,3,none⟩ (.int .i64 (i:Int))).alloc o1).heap.size=w6.heap.size+1:=by simp[World.setCell]
                    exact⟨by omega,h1⟩)
                  have H9:=yH (And.intro hk9 (And.intro hl9 (And.intro hwn7 (And.intro hm9 (And.intro hless hs9)))));have hCW:wr.heap.size≤((w4.setCell ⟨X,1,none⟩ (.int .i64 (i:Int))).drew).heap.size:=H5.out.1.size;have HCW:=yH hCW;clear hb6 hfz hkw htb hk7 hl7 hlj hpj hk6 hwn hwn7 hk57 hk9 hl9 hrow9 hown9 hX6 hs9 htk hm9 hless h38 hCW
                  go_wp2_with (at_builtin;refine tok_append rfl _ _ rfl (X+1) _ k _ rfl (HO.out _) ⟨w6.heap.size,0,none⟩ _ _ _ _ rfl HNEW.out (by intro x hx;simp at hx;rcases hx with rfl|rfl|rfl|rfl<;>rfl) HK4.out (HZ.out _).1 (w6.heap.size+1) (HZ.out _).2 ?_;intro g cap w7 hown7 hg7 hat7 _;have H7:=yH (And.intro hown7 (And.intro hg7 hat7));clear hown7 hg7 hat7)
                  obtain⟨k1,k2,us',F',k3⟩:=HA.out.more H9.out.1 H9.out.2.1 HK.out (by rw[HK.out];rfl) (t:=⟨1,[],ps,i⟩) H9.out.2.2.1 HCW.out rfl H7.out.1 H7.out.2.1 (by have h:=H7.out.2.2;rw[H9.out.2.2.2.2.2];exact h);exact HA.out.next k1 k2 k3 H9.out.2.2.2.1 H9.out.2.2.2.2.1
end Go.Proofs.YtcpmjkefbjbhpaaGreatDoor
