/-
  Proved: contracts of functions, plain facts. Conditions: as each says.
-/
import Derived.Test.YtakceggnadagmaaGreatDoorPq19
import Derived.Test.YtakceggnadagmaaGreatDoorPq26
import Derived.Test.YtakceggnadagmaaGreatDoorPq23
import Derived.Deep.RegionWith
namespace Go.Proofs.YtakceggnadagmaaGreatDoor
open Go Go.RowKit GlyphMath LexMath TreeMath
theorem rank_seq (k:List UInt8):decide (rankT k<4)= !(k== [115,101,113]):=by
  unfold rankT
  by_cases h1:k= [115,101,113]
  · subst h1;decide
  rw[if_neg h1,list_ne h1]
  repeat' split
  all_goals decide
theorem rank_and (k:List UInt8):decide (rankT k<3)=(!(k== [115,101,113])&&(!(k== [97,110,100])&& !(k== [111,114]))):=by
  unfold rankT
  by_cases h1:k= [115,101,113]
  · subst h1;decide
  rw[if_neg h1,list_ne h1]
  by_cases h2:k= [97,110,100]
  · subst h2;decide
  rw[if_neg h2,list_ne h2]
  by_cases h3:k= [111,114]
  · subst h3;decide
  rw[if_neg h3,list_ne h3]
  repeat' split
  all_goals decide
theorem rank_and0 (k:List UInt8):decide (rankT k≤3)= !(k== [115,101,113]):=by
  rw[←rank_seq];exact decide_eq_decide.2 (by omega)
theorem rank_not (k:List UInt8):decide (rankT k<2)= !([[115,101,113],[97,110,100],[111,114],[110,111,116]]:List (List UInt8)).contains k:=by
  unfold rankT
  by_cases h1:k= [115,101,113]
  · subst h1;decide
  by_cases h2:k= [97,110,100]
  · subst h2;decide
  by_cases h3:k= [111,114]
  · subst h3;decide
  by_cases h4:k= [110,111,116]
  · subst h4;decide
  rw[if_neg h1,if_neg h2,if_neg h3,if_neg h4];have e:([[115,101,113],[97,110,100],[111,114],[110,111,116]]:List (List UInt8)).contains k=false:=(by simp[h1,h2,h3,h4]);rw[e]
  split<;>decide
theorem rank_pipe (k:List UInt8):decide (rankT k<1)= !([[115,101,113],[97,110,100],[111,114],[110,111,116],[112,105,112,101]]:List (List UInt8)).contains k:=by
  unfold rankT
  by_cases h1:k= [115,101,113]
  · subst h1;decide
  by_cases h2:k= [97,110,100]
  · subst h2;decide
  by_cases h3:k= [111,114]
  · subst h3;decide
  by_cases h4:k= [110,111,116]
  · subst h4;decide
  by_cases h5:k= [112,105,112,101]
  · subst h5;decide
  rw[if_neg h1,if_neg h2,if_neg h3,if_neg h4,if_neg h5];have e:([[115,101,113],[97,110,100],[111,114],[110,111,116],[112,105,112,101]]:List (List UInt8)).contains k=false:=(by simp[h1,h2,h3,h4,h5]);rw[e]
  decide
def kidT (n:Nd) (i:Nat) (k:Nd):Bool:=
  if n.op= [115,101,113]then !(k.op== [115,101,113])
  else if n.op= [97,110,100]then !(k.op== [115,101,113])&&(((i:Int)==0)||(!(k.op== [97,110,100])&& !(k.op== [111,114])))
  else if n.op= [111,114]then !(k.op== [115,101,113])&&(((i:Int)==0)||(!(k.op== [97,110,100])&& !(k.op== [111,114])))
  else if n.op= [110,111,116]then !([[115,101,113],[97,110,100],[111,114],[110,111,116]]:List (List UInt8)).contains k.op
  else if n.op= [112,105,112,101]then !([[115,101,113],[97,110,100],[111,114],[110,111,116],[112,105,112,101]]:List (List UInt8)).contains k.op
  else if n.op= [102,117,110]then (k.op== [103,114,111,117,112]||k.op== [115,117,98])&&k.redirs.isEmpty
  else true
theorem kid_is (n:Nd) (i:Nat) (k:Nd):takesT n i k=kidT n i k:=by
  have hi:(i=0∧((i:Int)==0)=true)∨(¬i=0∧((i:Int)==0)=false):=by
    by_cases h:i=0
    · exact .inl ⟨h,by rw[h];rfl⟩
    · exact .inr ⟨h,int_ne (by omega)⟩
  unfold takesT kidT
  by_cases h1:n.op= [115,101,113]
  · rw[if_pos h1,h1,if_neg (by decide),if_neg (fun e=>absurd e.1 (by decide)),show rankT [115,101,113]=4 from by decide,rank_seq];rfl
  rw[if_neg h1]
  by_cases h2:n.op= [97,110,100]
  · rw[if_pos h2,h2,if_neg (by decide),show rankT [97,110,100]=3 from by decide]
    rcases hi with ⟨a,b⟩|⟨a,b⟩
    · rw[if_pos ⟨.inl rfl,a⟩,b,rank_and0];simp
    · rw[if_neg (fun e=>a e.2),b,rank_and];rfl
  rw[if_neg h2]
  by_cases h3:n.op= [111,114]
  · rw[if_pos h3,h3,if_neg (by decide),show rankT [111,114]=3 from by decide]
    rcases hi with ⟨a,b⟩|⟨a,b⟩
    · rw[if_pos ⟨.inr rfl,a⟩,b,rank_and0];simp
    · rw[if_neg (fun e=>a e.2),b,rank_and];rfl
  rw[if_neg h3]
  by_cases h4:n.op= [110,111,116]
  · rw[if_pos h4,h4,if_neg (by decide),if_neg (fun e=>absurd e.1 (by decide)),show rankT [110,111,116]=2 from by decide,rank_not];rfl
  rw[if_neg h4]
  by_cases h5:n.op= [112,105,112,101]
  · rw[if_pos h5,h5,if_neg (by decide),if_neg (fun e=>absurd e.1 (by decide)),show rankT [112,105,112,101]=1 from by decide,rank_pipe];rfl
  rw[if_neg h5]
  by_cases h6:n.op= [102,117,110]
  · rw[if_pos h6,if_pos h6]
  rw[if_neg h6,if_neg h6,if_neg (fun e=>e.1.elim h2 h3)];have:rankT n.op=0:=(by unfold rankT;rw[if_neg h1,if_neg h2,if_neg h3,if_neg h4,if_neg h5]);rw[this];rfl
set_option maxRecDepth 100000 in
theorem rhas_any (s:ByteArray) (ss:List (List UInt8)) (b n:Nat) (hn:ss.length=n) (hm:n≤100) (w:World) (hc:∀i x,ss[i]? =some x→w.cell? ⟨b,i,none⟩=some (.string (T x))):
    Calls Tryz.prog 64 #[.string s,.slice (some ⟨b,0,none⟩) n n] w fun e w'=>e= .returned (.bool (ss.contains s.toList))∧w=w':=by
  obtain⟨R,hR⟩:∃R,ss.contains s.toList=R:=⟨_,rfl⟩;have HR:=yH hR;have HC:=yH hc;have HN:=yH hn;rw[hR];have hn0:(n:Int)≤100:=(by omega);clear hR hc hn hm;go_enter Tryz.func64,Tryz.ntmps64;go_wp2_with fail
  go_loopw [5] (fun i wr=> ∃j,j≤n∧i= .int .i64 (j:Int)∧(ss.drop j).contains s.toList=R∧wr=w) (fun i _=>n-(intOf i).toNat)
  case atStart=>exact⟨0,by omega,rfl,HR.out,rfl⟩
  case round=>
    obtain⟨j,hj,rfl,hsd,rfl⟩:=hrel
    by_cases hlt:j<n
    · obtain⟨x,hx⟩:∃x,ss[j]? =some x:=⟨_,List.getElem?_eq_getElem (by rw[HN.out];exact hlt)⟩
      have c0:=HC.out j x hx;have hj0:(j:Int)<(n:Int):=(by omega);rw[drop_get hx,List.contains_cons]at hsd;have HJ:=yH hlt;obtain⟨t,ht⟩:∃t,T x=t:=⟨_,rfl⟩;have hl:t.toList=x:=(by rw[←ht,Lib.toList_data]);rw[ht]at c0;rw[←hl]at hsd;have HSD:=yH hsd;clear hsd hlt hj hx ht hl
      by_cases hq:s.toList=t.toList
      · have q1:(s.toList==t.toList)=true:=by rw[hq];simp
        have q2:(t.toList==s.toList)=true:=(by rw[hq];simp);have HF:=yH (show true=R from by rw[←HSD.out,q1];rfl);clear hq;go_wp2_with fail;go_ret;exact⟨ret_bool HF.out,rfl⟩
      · have q1:(s.toList==t.toList)=false:=list_ne hq
        have q2:(t.toList==s.toList)=false:=list_ne fun e=>hq e.symm;have HF:=yH (show(ss.drop (j+1)).contains s.toList=R from by rw[←HSD.out,q1];rfl);clear hq;go_wp2_with fail
        go_roundw
        case rel=>exact⟨j+1,HJ.out,by go_num,HF.out,trivial⟩
        case measure=>have:=HJ.out;simp[intOf];omega
    · obtain rfl:j=n:=by omega
      have hj0:¬(j:Int)<(j:Int):=(by omega);rw[List.drop_of_length_le (by rw[HN.out];exact Nat.le_refl _)]at hsd;have HE:=yH (show false=R from hsd);clear hsd hlt hj;go_wp2_with fail;go_ret;exact⟨ret_bool HE.out,rfl⟩
theorem three_cells (w:World) (o p:Obj) (cs:List Value) (t:TypeId):let W:=((w.alloc o).alloc p).alloc (.cells cs.toArray t)
    Below w.heap.size w W∧∀i u,cs[i]? =some u→W.cell? ⟨w.heap.size+2,i,none⟩=some u:=by
  intro W;refine⟨(below_two w o p).alloc (by simp;omega) _,fun i u hu=> ?_⟩;have h:=heap_alloc_new ((w.alloc o).alloc p) (.cells cs.toArray t);have e:((w.alloc o).alloc p).heap.size=w.heap.size+2:=(by simp);rw[e]at h;rw[cell_plain h]
  simpa using hu
set_option maxHeartbeats 1000000 in
set_option maxRecDepth 100000 in
theorem rkid_any (n k:Nd) (i:Nat) (a1 a2 a3 a4 a5 c1 c2 c3 c4:Value) (rp:Option Addr) (rc:Nat) (w:World):
    Calls Tryz.prog 34 #[nodeV n a1 a2 a3 a4 a5,.int .i64 (i:Int),nodeV k c1 c2 c3 c4 (.slice rp k.redirs.length rc)] w fun e w'=>e= .returned (.bool (takesT n i k))∧Below w.heap.size w w':=by
  rw[kid_is];have HK:=yH (show kidT n i k=_ from rfl);have HB2:=yH (fun o p=>below_two w o p);have H3:=yH (fun o p=>three_cells w o p);unfold nodeV txt;have hno:(T n.op).toList=n.op:=(by rw[Lib.toList_data]);have hko:(T k.op).toList=k.op:=(by rw[Lib.toList_data]);have hE:=empty_len k.redirs;obtain⟨R,hR⟩:∃R,kidT n i k=R:=⟨_,rfl⟩;rw[hR]at HK ⊢;show Calls _ _ #[.agg #[.string (T n.op),.string (T n.name),a1,a2,a3,a4,a5],_,.agg #[.string (T k.op),.string (T k.name),c1,c2,c3,c4,_]] _ _;obtain⟨o,ho⟩:∃o,T n.op=o:=⟨_,rfl⟩;obtain⟨p,hp⟩:∃o,T k.op=o:=⟨_,rfl⟩;rw[ho]at hno ⊢;rw[hp]at hko ⊢
  have HK:=yH (show R=(if o.toList= [115,101,113]then !(p.toList== [115,101,113])
    else if o.toList= [97,110,100]then !(p.toList== [115,101,113])&&(((i:Int)==0)||(!(p.toList== [97,110,100])&& !(p.toList== [111,114])))
    else if o.toList= [111,114]then !(p.toList== [115,101,113])&&(((i:Int)==0)||(!(p.toList== [97,110,100])&& !(p.toList== [111,114])))
    else if o.toList= [110,111,116]then !([[115,101,113],[97,110,100],[111,114],[110,111,116]]:List (List UInt8)).contains p.toList
    else if o.toList= [112,105,112,101]then !([[115,101,113],[97,110,100],[111,114],[110,111,116],[112,105,112,101]]:List (List UInt8)).contains p.toList
    else if o.toList= [102,117,110]then (p.toList== [103,114,111,117,112]||p.toList== [115,117,98])&&k.redirs.isEmpty
    else true)from by rw[hno,hko,←hR];rfl)
  obtain⟨RL,hRL⟩:∃L,k.redirs.length=L:=⟨_,rfl⟩;obtain⟨E,hEE⟩:∃L,k.redirs.isEmpty=L:=⟨_,rfl⟩;rw[hRL,hEE]at hE;rw[hEE]at HK;rw[hRL]
  generalize T n.name=xn
  generalize T k.name=xk
  clear hno hko ho hp hR hRL hEE
  by_cases h1:o.toList= [115,101,113]
  · have q1:(o.toList== [115,101,113])=true:=by rw[h1];decide
    obtain⟨s1,hs1⟩:∃s,(p.toList== [115,101,113])=s:=⟨_,rfl⟩;have HF:=yH (show(!s1)=R from by rw[HK.out,if_pos h1,hs1]);clear h1 HK
    cases s1
    all_goals
      go_enter Tryz.func34,Tryz.ntmps34;go_wp2_with fail;go_ret;exact⟨ret_bool HF.out,HB2.out _ _⟩
  have q1:(o.toList== [115,101,113])=false:=list_ne h1
  by_cases h23:o.toList= [97,110,100]∨o.toList= [111,114]
  · have hq:((o.toList== [97,110,100])=true)∨((o.toList== [97,110,100])=false∧(o.toList== [111,114])=true):=by
      rcases h23 with h|h<;>rw[h]<;>decide
    obtain⟨s1,hs1⟩:∃s,(p.toList== [115,101,113])=s:=⟨_,rfl⟩;obtain⟨s2,hs2⟩:∃s,(p.toList== [97,110,100])=s:=⟨_,rfl⟩;obtain⟨s3,hs3⟩:∃s,(p.toList== [111,114])=s:=⟨_,rfl⟩;obtain⟨s4,hs4⟩:∃s,((i:Int)==0)=s:=⟨_,rfl⟩
    have HF:=yH (show(!s1&&(s4||(!s2&& !s3)))=R from by
      rw[HK.out,if_neg h1,hs1,hs2,hs3,hs4]
      rcases h23 with h|h
      · rw[if_pos h]
      · rw[if_neg (by rw[h];decide),if_pos h])
    clear h1 HK h23
    rcases hq with q2|⟨q2,q3⟩
    all_goals
      cases s1<;>cases s4<;>cases s2
      all_goals
        go_enter Tryz.func34,Tryz.ntmps34;go_wp2_with fail;go_ret;exact⟨ret_bool (by first|exact HF.out|(rw[←HF.out];simp)),HB2.out _ _⟩
  have h2:¬o.toList= [97,110,100]:=fun e=>h23 (.inl e);have h3:¬o.toList= [111,114]:=fun e=>h23 (.inr e);have q2:(o.toList== [97,110,100])=false:=list_ne h2;have q3:(o.toList== [111,114])=false:=list_ne h3
  by_cases h4:o.toList= [110,111,116]
  · have q4:(o.toList== [110,111,116])=true:=by rw[h4];decide
    obtain⟨S,hS⟩:∃S,([[115,101,113],[97,110,100],[111,114],[110,111,116]]:List (List UInt8)).contains p.toList=S:=⟨_,rfl⟩;have HF:=yH (show(!S)=R from by rw[HK.out,if_neg h1,if_neg h2,if_neg h3,if_pos h4,hS]);have HS:=yH hS;clear h1 h2 h3 h4 h23 HK hS;go_enter Tryz.func34,Tryz.ntmps34;go_wp2_with fail;refine(show Calls _ _ _ _ _ from ?_);obtain⟨g1,g2⟩:=H3.out (.cells #[.string o,.string xn,a1,a2,a3,a4,a5] 44) (.cells #[.string p,.string xk,c1,c2,c3,c4,.slice rp RL rc] 44) [.string ⟨#[115,101,113]⟩,.string ⟨#[97,110,100]⟩,.string ⟨#[111,114]⟩,.string ⟨#[110,111,116]⟩] 9;have HG:=yH g1
    refine(rhas_any p [[115,101,113],[97,110,100],[111,114],[110,111,116]] (w.heap.size+2) 4 rfl (by decide) _ (fun i x hx=>g2 i (.string (T x)) (by
      match i,hx with
      |0,hx=>obtain rfl:=Option.some.inj hx;rfl
      |1,hx=>obtain rfl:=Option.some.inj hx;rfl
      |2,hx=>obtain rfl:=Option.some.inj hx;rfl
      |3,hx=>obtain rfl:=Option.some.inj hx;rfl
      |i+4,hx=>simp at hx))).mono ?_
    rintro e w2 ⟨rfl,rfl⟩;rw[HS.out];clear g1 g2;go_wp2_with fail;go_ret;exact⟨ret_bool HF.out,HG.out⟩
  have q4:(o.toList== [110,111,116])=false:=list_ne h4
  by_cases h5:o.toList= [112,105,112,101]
  · have q5:(o.toList== [112,105,112,101])=true:=by rw[h5];decide
    obtain⟨S,hS⟩:∃S,([[115,101,113],[97,110,100],[111,114],[110,111,116],[112,105,112,101]]:List (List UInt8)).contains p.toList=S:=⟨_,rfl⟩;have HF:=yH (show(!S)=R from by rw[HK.out,if_neg h1,if_neg h2,if_neg h3,if_neg h4,if_pos h5,hS]);have HS:=yH hS;clear h1 h2 h3 h4 h5 h23 HK hS;go_enter Tryz.func34,Tryz.ntmps34;go_wp2_with fail;obtain⟨g1,g2⟩:=H3.out (.cells #[.string o,.string xn,a1,a2,a3,a4,a5] 44) (.cells #[.string p,.string xk,c1,c2,c3,c4,.slice rp RL rc] 44) [.string ⟨#[115,101,113]⟩,.string ⟨#[97,110,100]⟩,.string ⟨#[111,114]⟩,.string ⟨#[110,111,116]⟩,.string ⟨#[112,105,112,101]⟩] 9;have HG:=yH g1
    refine(rhas_any p [[115,101,113],[97,110,100],[111,114],[110,111,116],[112,105,112,101]] (w.heap.size+2) 5 rfl (by decide) _ (fun i x hx=>g2 i (.string (T x)) (by
      match i,hx with
      |0,hx=>obtain rfl:=Option.some.inj hx;rfl
      |1,hx=>obtain rfl:=Option.some.inj hx;rfl
      |2,hx=>obtain rfl:=Option.some.inj hx;rfl
      |3,hx=>obtain rfl:=Option.some.inj hx;rfl
      |4,hx=>obtain rfl:=Option.some.inj hx;rfl
      |i+5,hx=>simp at hx))).mono ?_
    rintro e w2 ⟨rfl,rfl⟩;rw[HS.out];clear g1 g2;go_wp2_with fail;go_ret;exact⟨ret_bool HF.out,HG.out⟩
  have q5:(o.toList== [112,105,112,101])=false:=list_ne h5
  by_cases h6:o.toList= [102,117,110]
  · have q6:(o.toList== [102,117,110])=true:=by rw[h6];decide
    obtain⟨s1,hs1⟩:∃s,(p.toList== [103,114,111,117,112])=s:=⟨_,rfl⟩;obtain⟨s2,hs2⟩:∃s,(p.toList== [115,117,98])=s:=⟨_,rfl⟩;have HF:=yH (show((s1||s2)&&E)=R from by rw[HK.out,if_neg h1,if_neg h2,if_neg h3,if_neg h4,if_neg h5,if_pos h6,hs1,hs2]);clear h1 h2 h3 h4 h5 h6 h23 HK
    cases s1<;>cases s2
    all_goals
      go_enter Tryz.func34,Tryz.ntmps34;go_wp2_with fail;go_ret;exact⟨ret_bool (by first|exact HF.out|(rw[←HF.out];simp)),HB2.out _ _⟩
  have q6:(o.toList== [102,117,110])=false:=list_ne h6;have HF:=yH (show true=R from by rw[HK.out,if_neg h1,if_neg h2,if_neg h3,if_neg h4,if_neg h5,if_neg h6]);clear h1 h2 h3 h4 h5 h6 h23 HK;go_enter Tryz.func34,Tryz.ntmps34;go_wp2_with fail;go_ret;exact⟨ret_bool HF.out,HB2.out _ _⟩
theorem stay7 {W W':World} {a0 a1 a2 a3 a4 a5 a6:Addr} {v0 v1 v2 v3 v4 v5 v6:Value} (h:W.cell? a0=some v0∧W.cell? a1=some v1∧W.cell? a2=some v2∧W.cell? a3=some v3∧W.cell? a4=some v4∧W.cell? a5=some v5∧W.cell? a6=some v6) (hb:Below W.heap.size W W'):
    W'.cell? a0=some v0∧W'.cell? a1=some v1∧W'.cell? a2=some v2∧W'.cell? a3=some v3∧W'.cell? a4=some v4∧W'.cell? a5=some v5∧W'.cell? a6=some v6:=
  ⟨cell_below h.1 hb,cell_below h.2.1 hb,cell_below h.2.2.1 hb,cell_below h.2.2.2.1 hb,cell_below h.2.2.2.2.1 hb,cell_below h.2.2.2.2.2.1 hb,cell_below h.2.2.2.2.2.2 hb⟩
theorem stayA {W W':World} {a0 a1 a2 a3 a4 a5 a6 p0 p1 k0:Addr} {v0 v1 v2 v3 v4 v5 v6 u0 u1 t0:Value} (h:(W.cell? a0=some v0∧W.cell? a1=some v1∧W.cell? a2=some v2∧W.cell? a3=some v3∧W.cell? a4=some v4∧W.cell? a5=some v5∧W.cell? a6=some v6)∧(W.cell? p0=some u0∧W.cell? p1=some u1)∧W.cell? k0=some t0) (hb:Below W.heap.size W W'):
    (W'.cell? a0=some v0∧W'.cell? a1=some v1∧W'.cell? a2=some v2∧W'.cell? a3=some v3∧W'.cell? a4=some v4∧W'.cell? a5=some v5∧W'.cell? a6=some v6)∧(W'.cell? p0=some u0∧W'.cell? p1=some u1)∧W'.cell? k0=some t0:=
  ⟨stay7 h.1 hb,⟨cell_below h.2.1.1 hb,cell_below h.2.1.2 hb⟩,cell_below h.2.2 hb⟩
def rwalkV (m:Option Nat):Int:=match m with
  |some m=>(m:Int)
  |none=> -1
def RWalkDo (w0:World) (np:Option Addr) (nc:Nat) (root:Int) (ns:List Nd) (f:Nat):Prop:=∀(a:Nat) (w:World),Below w0.heap.size w0 w→a<ns.length→ns.length-a≤f→
  Calls Tryz.prog 16 #[.agg #[.slice np ns.length nc,.int .i64 root],.int .i64 (a:Int)] w fun e w'=>e= .returned (.int .i64 (rwalkV (rwalkT ns f a)))∧Below w.heap.size w w'
set_option linter.unusedSimpArgs false in
set_option maxHeartbeats 2000000 in
set_option maxRecDepth 100000 in
theorem rwalk_next {w0:World} {np:Option Addr} {nc:Nat} {root:Int} {ns:List Nd} (hN:NsAt w0 (.slice np ns.length nc) ns) {f:Nat} (hD:RWalkDo w0 np nc root ns f):RWalkDo w0 np nc root ns (f+1):=by
  intro a w hb0 ha hf;obtain⟨n,hn⟩:∃n,ns[a]? =some n:=⟨_,List.getElem?_eq_getElem ha⟩;obtain⟨bb,oo,rfl,kb,wp,pp,ap,rp,kc,wc,pc,ac,rc,hk, -, -, -, -,c0,c1,c2,c3,c4,c5,c6⟩:=hN.node hn;obtain⟨r,hr⟩:∃r,rwalkT ns (f+1) a=r:=⟨_,rfl⟩;have HR:=yH (show rkidsT (rwalkT ns f) ns n 0 n.kids (a+1)=r from by rw[←hr,rwalkT,hn]);rw[hr];have hfew:=hN.few;have hL0:(ns.length:Int)≤2^63-1:=(by unfold maxLen at hfew;omega);have hkf:=hk.few;have HND:=yH (fun m x (hx:ns[m]? =some x)=>hN.node hx);have HK:=yH hk;have HB0:=yH hb0;have HDD:=yH hD;have HFA:=yH (And.intro ha hf);obtain⟨KL,hKL⟩:∃L,n.kids.length=L:=⟨_,rfl⟩;have HKL:=yH hKL;obtain⟨WL,hWL⟩:∃L,n.words.length=L:=⟨_,rfl⟩;obtain⟨PL,hPL⟩:∃L,n.pats.length=L:=⟨_,rfl⟩;obtain⟨AL,hAL⟩:∃L,n.assigns.length=L:=⟨_,rfl⟩;obtain⟨RL,hRL⟩:∃L,n.redirs.length=L:=⟨_,rfl⟩;obtain⟨xo,hxo⟩:∃L,T n.op=L:=⟨_,rfl⟩;obtain⟨xn,hxn⟩:∃L,T n.name=L:=⟨_,rfl⟩;rw[hxo]at c0;rw[hxn]at c1;rw[hKL]at c2 hkf HK;rw[hWL]at c3;rw[hPL]at c4;rw[hAL]at c5;rw[hRL]at c6;have hK0:(KL:Int)≤2^63-1:=(by unfold maxLen at hkf;omega);have ha0:(a:Int)<(ns.length:Int):=(by omega);have ha1:(a:Int)+1≤9223372036854775807:=(by omega);have HX:=yH (show ∀kv wv pv av rv,nodeV n kv wv pv av rv= .agg #[.string xo,.string xn,kv,wv,pv,av,rv]from fun kv wv pv av rv=>by rw[←hxo,←hxn];rfl);have HBP:=yH (fun x=>below_one w x);have HBT:=yH (fun x y=>below_two w x y);have hq:=stay7 (stay7 ⟨c0,c1,c2,c3,c4,c5,c6⟩ hb0) (HBP.out (.cells #[.slice (some ⟨bb,oo,none⟩) ns.length nc,.int .i64 root] 24));obtain⟨d0,d1,d2,d3,d4,d5,d6⟩:=hq;have h3:=fun q:Obj=>heap_alloc_two w (.cells #[.slice (some ⟨bb,oo,none⟩) ns.length nc,.int .i64 root] 24) q;have h4:=heap_alloc_last w (.cells #[.slice (some ⟨bb,oo,none⟩) ns.length nc,.int .i64 root] 24) (.cells #[.string xo,.string xn,.slice kb KL kc,.slice wp WL wc,.slice pp PL pc,.slice ap AL ac,.slice rp RL rc] 44);have H34:=yH (And.intro (h3 (.cells #[.string xo,.string xn,.slice kb KL kc,.slice wp WL wc,.slice pp PL pc,.slice ap AL ac,.slice rp RL rc] 44)) h4);clear hN hb0 ha hf hn hk hr hfew hD hKL hWL hPL hAL hRL hxo hxn hkf c0 c1 c2 c3 c4 c5 c6 h3 h4;go_enter Tryz.func16,Tryz.ntmps16;go_wp2_with fail;obtain⟨w1,hw1⟩:∃w1,(w.alloc (.cells #[.slice (some ⟨bb,oo,none⟩) ns.length nc,.int .i64 root] 24)).alloc (.cells #[.string xo,.string xn,.slice kb KL kc,.slice wp WL wc,.slice pp PL pc,.slice ap AL ac,.slice rp RL rc] 44)=w1:=⟨_,rfl⟩;have HB1:=yH (show Below w.heap.size w w1 by rw[←hw1];exact HBT.out _ _)
  have HPN:=yH (show(w1.cell? ⟨w.heap.size+1,0,none⟩=some (.string xo)∧w1.cell? ⟨w.heap.size+1,1,none⟩=some (.string xn)∧w1.cell? ⟨w.heap.size+1,2,none⟩=some (.slice kb KL kc)∧w1.cell? ⟨w.heap.size+1,3,none⟩=some (.slice wp WL wc)∧w1.cell? ⟨w.heap.size+1,4,none⟩=some (.slice pp PL pc)∧w1.cell? ⟨w.heap.size+1,5,none⟩=some (.slice ap AL ac)∧w1.cell? ⟨w.heap.size+1,6,none⟩=some (.slice rp RL rc))∧w1.cell? ⟨w.heap.size,0,none⟩=some (.slice (some ⟨bb,oo,none⟩) ns.length nc)∧w1.cell? ⟨w.heap.size,1,none⟩=some (.int .i64 root)from by
    rw[←hw1]
    exact⟨⟨cell_plain H34.out.2 0,cell_plain H34.out.2 1,cell_plain H34.out.2 2,cell_plain H34.out.2 3,cell_plain H34.out.2 4,cell_plain H34.out.2 5,cell_plain H34.out.2 6⟩,cell_plain H34.out.1 0,cell_plain H34.out.1 1⟩)
  rw[hw1];clear hw1 d0 d1 d2 d3 d4 d5 d6 HBP HBT H34
  go_loopw [5,7] (fun nx i wr=> ∃j m:Nat,j≤KL∧i= .int .i64 (j:Int)∧nx= .int .i64 (m:Int)∧a<m∧Below w1.heap.size w1 wr∧rkidsT (rwalkT ns f) ns n j (n.kids.drop j) m=r) (fun _ i _=>KL-(intOf i).toNat)
  case atStart=>exact⟨0,a+1,by omega,rfl,by go_num,by omega,Below.refl _ _,by rw[List.drop_zero];exact HR.out⟩
  case round=>
    obtain⟨j,m,hj,rfl,rfl,ham,hb,hsd⟩:=hrel;have HB:=yH hb;have HQN:=yH (stay7 HPN.out.1 hb);have HQP:=yH (And.intro (cell_below HPN.out.2.1 hb) (cell_below HPN.out.2.2 hb));have HW0:=yH (HB1.out.trans (hb.mono HB1.out.size));have HW00:=yH (HB0.out.trans (HW0.out.mono HB0.out.size))
    by_cases hlt:j<KL
    · obtain⟨kk,hkk⟩:∃x,n.kids[j]? =some x:=⟨_,List.getElem?_eq_getElem (by rw[HKL.out];exact hlt)⟩
      obtain⟨kbb,ko,rfl⟩:=SlAt.ptr HK.out hkk;obtain⟨cs,rfl,hcc⟩:=SlAt.cell HK.out rfl hkk
      have kc0:wr.cell? ⟨kbb,ko+j,none⟩=some (.int .i64 kk):=by
        have:=cell_below (hcc 0 _ rfl) HW00.out
        rwa [show ko+j*1+0=ko+j by omega]at this
      have HSA:=yH (And.intro HQN.out (And.intro HQP.out kc0));have hj0:(j:Int)<(KL:Int):=(by omega);have HJ:=yH hlt;have HAM:=yH ham;rw[drop_get hkk,rkidsT]at hsd;have HSD:=yH hsd;obtain⟨n0,n1,n2,n3,n4,n5,n6⟩:=HQN.out;obtain⟨p0,p1⟩:=HQP.out;clear hb hlt hj hkk hcc hsd ham
      by_cases hkm:kk=(m:Int)
      · subst hkm
        by_cases hml:m<ns.length
        · obtain⟨y,hy⟩:∃y,ns[m]? =some y:=⟨_,List.getElem?_eq_getElem hml⟩
          obtain⟨bb2,oo2,hpo,kp2,wp2,pp2,ap2,rp2,kc2,wc2,pc2,ac2,rc2, -, -, -, -, -,e0,e1,e2,e3,e4,e5,e6⟩:=HND.out m y hy
          obtain⟨rfl,rfl⟩:bb=bb2∧oo=oo2:=by
            simp only[Option.some.injEq,Addr.mk.injEq,and_true]at hpo;exact hpo
          have HQM:=yH (stay7 ⟨e0,e1,e2,e3,e4,e5,e6⟩ HW00.out);have hkid:=fun W=>rkid_any n y j (.slice (some ⟨kbb,ko,none⟩) KL kc) (.slice wp WL wc) (.slice pp PL pc) (.slice ap AL ac) (.slice rp RL rc) (.slice kp2 y.kids.length kc2) (.slice wp2 y.words.length wc2) (.slice pp2 y.pats.length pc2) (.slice ap2 y.assigns.length ac2) rp2 rc2 W;obtain⟨TK,hTK⟩:∃t,takesT n j y=t:=⟨_,rfl⟩
          have HNX:=yH (show(if TK=true then match rwalkT ns f m with|none=>none|some m'=>rkidsT (rwalkT ns f) ns n (j+1) (n.kids.drop (j+1)) m' else none)=r from by
            have:=HSD.out;rw[if_pos rfl,hy]at this;simp only at this
            rwa [hTK]at this)
          rw[hTK]at hkid;unfold nodeV at hkid;obtain⟨KL2,hKL2⟩:∃L,y.kids.length=L:=⟨_,rfl⟩;obtain⟨WL2,hWL2⟩:∃L,y.words.length=L:=⟨_,rfl⟩;obtain⟨PL2,hPL2⟩:∃L,y.pats.length=L:=⟨_,rfl⟩;obtain⟨AL2,hAL2⟩:∃L,y.assigns.length=L:=⟨_,rfl⟩;obtain⟨RL2,hRL2⟩:∃L,y.redirs.length=L:=⟨_,rfl⟩;obtain⟨yo,hyo⟩:∃L,T y.op=L:=⟨_,rfl⟩;obtain⟨yn,hyn⟩:∃L,T y.name=L:=⟨_,rfl⟩
          have HKD:=yH (show Calls Tryz.prog 34 #[.agg #[.string xo,.string xn,.slice (some ⟨kbb,ko,none⟩) KL kc,.slice wp WL wc,.slice pp PL pc,.slice ap AL ac,.slice rp RL rc],.int .i64 (j:Int),.agg #[.string yo,.string yn,.slice kp2 KL2 kc2,.slice wp2 WL2 wc2,.slice pp2 PL2 pc2,.slice ap2 AL2 ac2,.slice rp2 RL2 rc2]] wr.drew fun e w'=>e= .returned (.bool TK)∧Below wr.drew.heap.size wr.drew w' from by
            have:=hkid wr.drew;have e:=HX.out (.slice (some ⟨kbb,ko,none⟩) KL kc) (.slice wp WL wc) (.slice pp PL pc) (.slice ap AL ac) (.slice rp RL rc);unfold nodeV at e;rw[e,hKL2,hWL2,hPL2,hAL2,hRL2]at this;rw[←hyo,←hyn]
            exact this)
          have HSB:=yH (And.intro HSA.out (show wr.cell? ⟨bb,oo+m*7,none⟩=some (.string yo)∧wr.cell? ⟨bb,oo+m*7+1,none⟩=some (.string yn)∧wr.cell? ⟨bb,oo+m*7+2,none⟩=some (.slice kp2 KL2 kc2)∧wr.cell? ⟨bb,oo+m*7+3,none⟩=some (.slice wp2 WL2 wc2)∧wr.cell? ⟨bb,oo+m*7+4,none⟩=some (.slice pp2 PL2 pc2)∧wr.cell? ⟨bb,oo+m*7+5,none⟩=some (.slice ap2 AL2 ac2)∧wr.cell? ⟨bb,oo+m*7+6,none⟩=some (.slice rp2 RL2 rc2)from by
            rw[←hyo,←hyn,←hKL2,←hWL2,←hPL2,←hAL2,←hRL2];exact HQM.out))
          obtain⟨m0,m1,m2,m3,m4,m5,m6⟩:=HSB.out.2;have HML:=yH hml;have hmi:(m:Int)<(ns.length:Int):=(by omega);have hmn:decide (ns.length≤m)=false:=decide_eq_false (by omega);have hmn2:decide ((ns.length:Int)≤(m:Int))=false:=decide_eq_false (by omega);have hm0:(0:Int)≤(m:Int):=(by omega);have hne:((m:Int) !=(m:Int))=false:=(by simp);have HDM:=yH (fun W (hW:Below w0.heap.size w0 W)=>HDD.out m W hW HML.out (by have:=HFA.out;have:=HAM.out;omega));clear hkid hTK hKL2 hWL2 hPL2 hAL2 hRL2 hyo hyn e0 e1 e2 e3 e4 e5 e6 hpo hy hml
          cases TK with
          |false=>
            have HF:=yH (show none=r from HNX.out);go_wp2_with fail;refine wp_region_held_drew (S:=(fun W=>((W.cell? ⟨w.heap.size+1,0,none⟩=some (.string xo)∧W.cell? ⟨w.heap.size+1,1,none⟩=some (.string xn)∧W.cell? ⟨w.heap.size+1,2,none⟩=some (.slice (some ⟨kbb,ko,none⟩) KL kc)∧W.cell? ⟨w.heap.size+1,3,none⟩=some (.slice wp WL wc)∧W.cell? ⟨w.heap.size+1,4,none⟩=some (.slice pp PL pc)∧W.cell? ⟨w.heap.size+1,5,none⟩=some (.slice ap AL ac)∧W.cell? ⟨w.heap.size+1,6,none⟩=some (.slice rp RL rc))∧(W.cell? ⟨w.heap.size,0,none⟩=some (.slice (some ⟨bb,oo,none⟩) ns.length nc)∧W.cell? ⟨w.heap.size,1,none⟩=some (.int .i64 root))∧W.cell? ⟨kbb,ko+j,none⟩=some (.int .i64 (m:Int)))∧(W.cell? ⟨bb,oo+m*7,none⟩=some (.string yo)∧W.cell? ⟨bb,oo+m*7+1,none⟩=some (.string yn)∧W.cell? ⟨bb,oo+m*7+2,none⟩=some (.slice kp2 KL2 kc2)∧W.cell? ⟨bb,oo+m*7+3,none⟩=some (.slice wp2 WL2 wc2)∧W.cell? ⟨bb,oo+m*7+4,none⟩=some (.slice pp2 PL2 pc2)∧W.cell? ⟨bb,oo+m*7+5,none⟩=some (.slice ap2 AL2 ac2)∧W.cell? ⟨bb,oo+m*7+6,none⟩=some (.slice rp2 RL2 rc2)))) (by kernel_rfl) ?_ (fun hHeld=> ?_)
            · exact HSB.out
            refine tkW 0 22 rfl rfl ?_ ?_ ?_;rotate_left
            · intro _ _;go_simp<;>(with_reducible rfl)
            simp only[pS];refine tkW 1 23 rfl rfl ?_ ?_ ?_;rotate_left
            · intro _ _;go_simp<;>(with_reducible rfl)
            simp only[pS];refine tkW 2 24 rfl rfl ?_ ?_ ?_;rotate_left
            · intro _ _;go_simp<;>(with_reducible rfl)
            simp only[pS];refine tkW 3 25 rfl rfl ?_ ?_ ?_;rotate_left
            · intro _ _;go_simp<;>(with_reducible rfl)
            simp only[pS];refine tkW 4 26 rfl rfl ?_ ?_ ?_;rotate_left
            · intro _ _;go_simp<;>(with_reducible rfl)
            simp only[pS];refine tkW 5 27 rfl rfl ?_ ?_ ?_;rotate_left
            · intro _ _;go_simp<;>(with_reducible rfl)
            simp only[pS];refine tkW 6 28 rfl rfl ?_ ?_ ?_;rotate_left
            · intro _ _;go_simp<;>(with_reducible rfl)
            simp only[pS];refine tkW 7 29 rfl rfl ?_ ?_ ?_;rotate_left
            · intro _ _;go_simp<;>(with_reducible rfl)
            simp only[pS];refine tkW 8 30 rfl rfl ?_ ?_ ?_;rotate_left
            · intro _ _;go_simp<;>(with_reducible rfl)
            simp only[pS];refine tkW 9 31 rfl rfl ?_ ?_ ?_;rotate_left
            · intro _ _;go_simp<;>(with_reducible rfl)
            simp only[pS];refine tkW 10 32 rfl rfl ?_ ?_ ?_;rotate_left
            · intro _ _;go_simp<;>(with_reducible rfl)
            simp only[pS];refine tkW 11 33 rfl rfl ?_ ?_ ?_;rotate_left
            · intro _ _;go_simp<;>(with_reducible rfl)
            simp only[pS];refine tkW 12 34 rfl rfl ?_ ?_ ?_;rotate_left
            · intro _ _;go_simp<;>(with_reducible rfl)
            simp only[pS];refine tkW 13 35 rfl rfl ?_ ?_ ?_;rotate_left
            · intro _ _;go_simp<;>(with_reducible rfl)
            simp only[pS];refine tkW 14 36 rfl rfl ?_ ?_ ?_;rotate_left
            · intro _ _;go_simp<;>(with_reducible rfl)
            simp only[pS];refine tkW 15 37 rfl rfl ?_ ?_ ?_;rotate_left
            · intro _ _;go_simp<;>(with_reducible rfl)
            simp only[pS];refine tkW 16 38 rfl rfl ?_ ?_ ?_;rotate_left
            · intro _ _;go_simp<;>(with_reducible rfl)
            simp only[pS];refine tkW 17 39 rfl rfl ?_ ?_ ?_;rotate_left
            · intro _ _;go_simp<;>(with_reducible rfl)
            simp only[pS];refine tkW 18 40 rfl rfl ?_ ?_ ?_;rotate_left
            · intro _ _;go_simp<;>(with_reducible rfl)
            simp only[pS];refine tkW 19 41 rfl rfl ?_ ?_ ?_;rotate_left
            · intro _ _;go_simp<;>(with_reducible rfl)
            simp only[pS];refine tkW 20 42 rfl rfl ?_ ?_ ?_;rotate_left
            · intro _ _;go_simp<;>(with_reducible rfl)
            simp only[pS];refine tkW 21 43 rfl rfl ?_ ?_ ?_;rotate_left
            · intro _ _;go_simp<;>(with_reducible rfl)
            simp only[pS];refine cW 22 rfl (fun K hK=> ?_);go_simp
            go_wp2_with ((go_at_call 34;refine HKD.out.mono ?_;rintro e w2 ⟨rfl,hb⟩;have HB2:=yH ((below_drew1 wr.heap.size wr).trans hb);have HPC:=yH (And.intro (stayA HSB.out.1 HB2.out) (stay7 HSB.out.2 HB2.out));clear hb))
            refine hK.out _ _ ?_ (fun hHeld=> ?_)
            · exact HPC.out
            clear hK K;refine tkW 23 45 rfl rfl ?_ ?_ ?_;rotate_left
            · intro _ _;go_simp<;>(with_reducible rfl)
            simp only[pS];refine tkW 24 46 rfl rfl ?_ ?_ ?_;rotate_left
            · intro _ _;go_simp<;>(with_reducible rfl)
            simp only[pS];refine wpAnyH_done (by kernel_rfl) ?_ _;go_wp2_with fail;go_ret;exact⟨by rw[←HF.out];rfl,HW0.out.trans (HB2.out.mono HW0.out.size)⟩
          |true=>
            have HNX:=yH (show(match rwalkT ns f m with|none=>none|some m'=>rkidsT (rwalkT ns f) ns n (j+1) (n.kids.drop (j+1)) m')=r from HNX.out);have HLT:=yH (fun m' (h:rwalkT ns f m=some m')=>rwalk_lt f m m' h);obtain⟨Z,hZ⟩:∃Z,rwalkT ns f m=Z:=⟨_,rfl⟩;rw[hZ]at HDM HNX HLT;clear hZ;go_wp2_with fail;refine wp_region_held_drew (S:=(fun W=>((W.cell? ⟨w.heap.size+1,0,none⟩=some (.string xo)∧W.cell? ⟨w.heap.size+1,1,none⟩=some (.string xn)∧W.cell? ⟨w.heap.size+1,2,none⟩=some (.slice (some ⟨kbb,ko,none⟩) KL kc)∧W.cell? ⟨w.heap.size+1,3,none⟩=some (.slice wp WL wc)∧W.cell? ⟨w.heap.size+1,4,none⟩=some (.slice pp PL pc)∧W.cell? ⟨w.heap.size+1,5,none⟩=some (.slice ap AL ac)∧W.cell? ⟨w.heap.size+1,6,none⟩=some (.slice rp RL rc))∧(W.cell? ⟨w.heap.size,0,none⟩=some (.slice (some ⟨bb,oo,none⟩) ns.length nc)∧W.cell? ⟨w.heap.size,1,none⟩=some (.int .i64 root))∧W.cell? ⟨kbb,ko+j,none⟩=some (.int .i64 (m:Int)))∧(W.cell? ⟨bb,oo+m*7,none⟩=some (.string yo)∧W.cell? ⟨bb,oo+m*7+1,none⟩=some (.string yn)∧W.cell? ⟨bb,oo+m*7+2,none⟩=some (.slice kp2 KL2 kc2)∧W.cell? ⟨bb,oo+m*7+3,none⟩=some (.slice wp2 WL2 wc2)∧W.cell? ⟨bb,oo+m*7+4,none⟩=some (.slice pp2 PL2 pc2)∧W.cell? ⟨bb,oo+m*7+5,none⟩=some (.slice ap2 AL2 ac2)∧W.cell? ⟨bb,oo+m*7+6,none⟩=some (.slice rp2 RL2 rc2)))) (by kernel_rfl) ?_ (fun hHeld=> ?_)
            · exact HSB.out
            refine tkW 0 22 rfl rfl ?_ ?_ ?_;rotate_left
            · intro _ _;go_simp<;>(with_reducible rfl)
            simp only[pS];refine tkW 1 23 rfl rfl ?_ ?_ ?_;rotate_left
            · intro _ _;go_simp<;>(with_reducible rfl)
            simp only[pS];refine tkW 2 24 rfl rfl ?_ ?_ ?_;rotate_left
            · intro _ _;go_simp<;>(with_reducible rfl)
            simp only[pS];refine tkW 3 25 rfl rfl ?_ ?_ ?_;rotate_left
            · intro _ _;go_simp<;>(with_reducible rfl)
            simp only[pS];refine tkW 4 26 rfl rfl ?_ ?_ ?_;rotate_left
            · intro _ _;go_simp<;>(with_reducible rfl)
            simp only[pS];refine tkW 5 27 rfl rfl ?_ ?_ ?_;rotate_left
            · intro _ _;go_simp<;>(with_reducible rfl)
            simp only[pS];refine tkW 6 28 rfl rfl ?_ ?_ ?_;rotate_left
            · intro _ _;go_simp<;>(with_reducible rfl)
            simp only[pS];refine tkW 7 29 rfl rfl ?_ ?_ ?_;rotate_left
            · intro _ _;go_simp<;>(with_reducible rfl)
            simp only[pS];refine tkW 8 30 rfl rfl ?_ ?_ ?_;rotate_left
            · intro _ _;go_simp<;>(with_reducible rfl)
            simp only[pS];refine tkW 9 31 rfl rfl ?_ ?_ ?_;rotate_left
            · intro _ _;go_simp<;>(with_reducible rfl)
            simp only[pS];refine tkW 10 32 rfl rfl ?_ ?_ ?_;rotate_left
            · intro _ _;go_simp<;>(with_reducible rfl)
            simp only[pS];refine tkW 11 33 rfl rfl ?_ ?_ ?_;rotate_left
            · intro _ _;go_simp<;>(with_reducible rfl)
            simp only[pS];refine tkW 12 34 rfl rfl ?_ ?_ ?_;rotate_left
            · intro _ _;go_simp<;>(with_reducible rfl)
            simp only[pS];refine tkW 13 35 rfl rfl ?_ ?_ ?_;rotate_left
            · intro _ _;go_simp<;>(with_reducible rfl)
            simp only[pS];refine tkW 14 36 rfl rfl ?_ ?_ ?_;rotate_left
            · intro _ _;go_simp<;>(with_reducible rfl)
            simp only[pS];refine tkW 15 37 rfl rfl ?_ ?_ ?_;rotate_left
            · intro _ _;go_simp<;>(with_reducible rfl)
            simp only[pS];refine tkW 16 38 rfl rfl ?_ ?_ ?_;rotate_left
            · intro _ _;go_simp<;>(with_reducible rfl)
            simp only[pS];refine tkW 17 39 rfl rfl ?_ ?_ ?_;rotate_left
            · intro _ _;go_simp<;>(with_reducible rfl)
            simp only[pS];refine tkW 18 40 rfl rfl ?_ ?_ ?_;rotate_left
            · intro _ _;go_simp<;>(with_reducible rfl)
            simp only[pS];refine tkW 19 41 rfl rfl ?_ ?_ ?_;rotate_left
            · intro _ _;go_simp<;>(with_reducible rfl)
            simp only[pS];refine tkW 20 42 rfl rfl ?_ ?_ ?_;rotate_left
            · intro _ _;go_simp<;>(with_reducible rfl)
            simp only[pS];refine tkW 21 43 rfl rfl ?_ ?_ ?_;rotate_left
            · intro _ _;go_simp<;>(with_reducible rfl)
            simp only[pS];refine cW 22 rfl (fun K hK=> ?_);go_simp
            go_wp2_with ((go_at_call 34;refine HKD.out.mono ?_;rintro e w2 ⟨rfl,hb⟩;have HB2:=yH ((below_drew1 wr.heap.size wr).trans hb);have HPC:=yH (And.intro (stayA HSB.out.1 HB2.out) (stay7 HSB.out.2 HB2.out));clear hb))
            refine hK.out _ _ ?_ (fun hHeld=> ?_)
            · exact HPC.out
            clear hK K;refine tkW 23 45 rfl rfl ?_ ?_ ?_;rotate_left
            · intro _ _;go_simp<;>(with_reducible rfl)
            simp only[pS];refine tkW 24 46 rfl rfl ?_ ?_ ?_;rotate_left
            · intro _ _;go_simp<;>(with_reducible rfl)
            simp only[pS];refine wpAnyH_done (by kernel_rfl) ?_ _;obtain⟨⟨z0,z1,z2,z3,z4,z5,z6⟩,⟨y0,y1⟩, -⟩:=HPC.out.1;have HDW:=yH (HDM.out w2 (HW00.out.trans (HB2.out.mono HW00.out.size)))
            cases Z with
            |none=>
              have HF:=yH (show none=r from HNX.out);have HDW:=yH (show Calls Tryz.prog 16 #[.agg #[.slice (some ⟨bb,oo,none⟩) ns.length nc,.int .i64 root],.int .i64 (m:Int)] w2 fun e w'=>e= .returned (.int .i64 (-1))∧Below w2.heap.size w2 w' from HDW.out)
              go_wp2_with (go_at_call 16;refine HDW.out.mono ?_;rintro e w3 ⟨rfl,hb3⟩;have HB3:=yH (HB2.out.trans (hb3.mono HB2.out.size));clear hb3)
              go_ret;exact⟨by rw[←HF.out];rfl,HW0.out.trans (HB3.out.mono HW0.out.size)⟩
            |some m'=>
              have HF:=yH (show rkidsT (rwalkT ns f) ns n (j+1) (n.kids.drop (j+1)) m'=r from HNX.out);have HDW:=yH (show Calls Tryz.prog 16 #[.agg #[.slice (some ⟨bb,oo,none⟩) ns.length nc,.int .i64 root],.int .i64 (m:Int)] w2 fun e w'=>e= .returned (.int .i64 (m':Int))∧Below w2.heap.size w2 w' from HDW.out);have HLT:=yH (HLT.out m' rfl);have hmp:decide ((m':Int)<0)=false:=decide_eq_false (by omega);clear hmi hm0 ha0 ha1 hL0 hmn hmn2 hne
              go_wp2_with (go_at_call 16;refine HDW.out.mono ?_;rintro e w3 ⟨rfl,hb3⟩;have HB3:=yH (HB2.out.trans (hb3.mono HB2.out.size));clear hb3)
              go_roundw
              case rel=>exact⟨j+1,m',HJ.out,by go_num,rfl,by have:=HAM.out;have:=HLT.out;omega,HB.out.trans (HB3.out.mono HB.out.size),HF.out⟩
              case measure=>have:=HJ.out;simp[intOf];omega
        · have HF:=yH (show none=r from by
            have:=HSD.out
            rwa [if_pos rfl,List.getElem?_eq_none (by omega)]at this)
          have hmn:decide (ns.length≤m)=true:=decide_eq_true (by omega);have hmn2:decide ((ns.length:Int)≤(m:Int))=true:=decide_eq_true (by omega);have hne:((m:Int) !=(m:Int))=false:=(by simp);clear hml;go_wp2_with fail;refine wp_region_held_drew (S:=(fun W=>(W.cell? ⟨w.heap.size+1,0,none⟩=some (.string xo)∧W.cell? ⟨w.heap.size+1,1,none⟩=some (.string xn)∧W.cell? ⟨w.heap.size+1,2,none⟩=some (.slice (some ⟨kbb,ko,none⟩) KL kc)∧W.cell? ⟨w.heap.size+1,3,none⟩=some (.slice wp WL wc)∧W.cell? ⟨w.heap.size+1,4,none⟩=some (.slice pp PL pc)∧W.cell? ⟨w.heap.size+1,5,none⟩=some (.slice ap AL ac)∧W.cell? ⟨w.heap.size+1,6,none⟩=some (.slice rp RL rc))∧(W.cell? ⟨w.heap.size,0,none⟩=some (.slice (some ⟨bb,oo,none⟩) ns.length nc)∧W.cell? ⟨w.heap.size,1,none⟩=some (.int .i64 root))∧W.cell? ⟨kbb,ko+j,none⟩=some (.int .i64 (m:Int)))) (by kernel_rfl) ?_ (fun hHeld=> ?_)
          · exact HSA.out
          refine tkW 0 22 rfl rfl ?_ ?_ ?_;rotate_left
          · intro _ _;go_simp<;>(with_reducible rfl)
          simp only[pS];refine tkW 1 23 rfl rfl ?_ ?_ ?_;rotate_left
          · intro _ _;go_simp<;>(with_reducible rfl)
          simp only[pS];refine tkW 2 24 rfl rfl ?_ ?_ ?_;rotate_left
          · intro _ _;go_simp<;>(with_reducible rfl)
          simp only[pS];refine tkW 3 25 rfl rfl ?_ ?_ ?_;rotate_left
          · intro _ _;go_simp<;>(with_reducible rfl)
          simp only[pS];refine tkW 4 26 rfl rfl ?_ ?_ ?_;rotate_left
          · intro _ _;go_simp<;>(with_reducible rfl)
          simp only[pS];refine tkW 5 27 rfl rfl ?_ ?_ ?_;rotate_left
          · intro _ _;go_simp<;>(with_reducible rfl)
          simp only[pS];refine tkW 6 28 rfl rfl ?_ ?_ ?_;rotate_left
          · intro _ _;go_simp<;>(with_reducible rfl)
          simp only[pS];refine tkW 7 29 rfl rfl ?_ ?_ ?_;rotate_left
          · intro _ _;go_simp<;>(with_reducible rfl)
          simp only[pS];refine tkW 8 30 rfl rfl ?_ ?_ ?_;rotate_left
          · intro _ _;go_simp<;>(with_reducible rfl)
          simp only[pS];refine tkW 9 31 rfl rfl ?_ ?_ ?_;rotate_left
          · intro _ _;go_simp<;>(with_reducible rfl)
          simp only[pS];refine tkW 10 32 rfl rfl ?_ ?_ ?_;rotate_left
          · intro _ _;go_simp<;>(with_reducible rfl)
          simp only[pS];refine tkW 11 33 rfl rfl ?_ ?_ ?_;rotate_left
          · intro _ _;go_simp<;>(with_reducible rfl)
          simp only[pS];refine tkW 12 34 rfl rfl ?_ ?_ ?_;rotate_left
          · intro _ _;go_simp<;>(with_reducible rfl)
          simp only[pS];refine tkW 13 35 rfl rfl ?_ ?_ ?_;rotate_left
          · intro _ _;go_simp<;>(with_reducible rfl)
          simp only[pS];refine tkW 14 36 rfl rfl ?_ ?_ ?_;rotate_left
          · intro _ _;go_simp<;>(with_reducible rfl)
          simp only[pS];refine takeN (i:=15) (k:=37) rfl (by kernel_rfl) (by kernel_rfl) (by kernel_rfl) (by kernel_rfl) (fun _ _ _ h=>h) (by rfl) (by assumption) ?_;simp only[pS];refine takeN (i:=16) (k:=38) rfl (by kernel_rfl) (by kernel_rfl) (by kernel_rfl) (by kernel_rfl) (fun _ _ _ h=>h) (by rfl) (by assumption) ?_;simp only[pS];refine takeN (i:=17) (k:=39) rfl (by kernel_rfl) (by kernel_rfl) (by kernel_rfl) (by kernel_rfl) (fun _ _ _ h=>h) (by rfl) (by assumption) ?_;simp only[pS];refine takeN (i:=18) (k:=40) rfl (by kernel_rfl) (by kernel_rfl) (by kernel_rfl) (by kernel_rfl) (fun _ _ _ h=>h) (by rfl) (by assumption) ?_;simp only[pS];refine takeN (i:=19) (k:=41) rfl (by kernel_rfl) (by kernel_rfl) (by kernel_rfl) (by kernel_rfl) (fun _ _ _ h=>h) (by rfl) (by assumption) ?_;simp only[pS];refine takeN (i:=20) (k:=42) rfl (by kernel_rfl) (by kernel_rfl) (by kernel_rfl) (by kernel_rfl) (fun _ _ _ h=>h) (by rfl) (by assumption) ?_;simp only[pS];refine takeN (i:=21) (k:=43) rfl (by kernel_rfl) (by kernel_rfl) (by kernel_rfl) (by kernel_rfl) (fun _ _ _ h=>h) (by rfl) (by assumption) ?_;simp only[pS];refine takeN (i:=22) (k:=44) rfl (by kernel_rfl) (by kernel_rfl) (by kernel_rfl) (by kernel_rfl) (fun _ _ _ h=>h) (by rfl) (by assumption) ?_;simp only[pS];refine takeN (i:=23) (k:=45) rfl (by kernel_rfl) (by kernel_rfl) (by kernel_rfl) (by kernel_rfl) (fun _ _ _ h=>h) (by rfl) (by assumption) ?_;simp only[pS];refine tkW 24 46 rfl rfl ?_ ?_ ?_;rotate_left
          · intro _ _;go_simp<;>(with_reducible rfl)
          simp only[pS];refine wpAnyH_done (by kernel_rfl) ?_ _;go_wp2_with fail;go_ret;exact⟨by rw[←HF.out];rfl,HW0.out.trans ((below_drew1 wr.heap.size wr).mono HW0.out.size)⟩
      · have HF:=yH (show none=r from by have:=HSD.out;rwa [if_neg hkm]at this)
        have hne:(kk !=(m:Int))=true:=(by simpa using hkm);clear hkm;go_wp2_with fail;refine wp_region_held_drew (S:=(fun W=>(W.cell? ⟨w.heap.size+1,0,none⟩=some (.string xo)∧W.cell? ⟨w.heap.size+1,1,none⟩=some (.string xn)∧W.cell? ⟨w.heap.size+1,2,none⟩=some (.slice (some ⟨kbb,ko,none⟩) KL kc)∧W.cell? ⟨w.heap.size+1,3,none⟩=some (.slice wp WL wc)∧W.cell? ⟨w.heap.size+1,4,none⟩=some (.slice pp PL pc)∧W.cell? ⟨w.heap.size+1,5,none⟩=some (.slice ap AL ac)∧W.cell? ⟨w.heap.size+1,6,none⟩=some (.slice rp RL rc))∧(W.cell? ⟨w.heap.size,0,none⟩=some (.slice (some ⟨bb,oo,none⟩) ns.length nc)∧W.cell? ⟨w.heap.size,1,none⟩=some (.int .i64 root))∧W.cell? ⟨kbb,ko+j,none⟩=some (.int .i64 kk))) (by kernel_rfl) ?_ (fun hHeld=> ?_)
        · exact HSA.out
        refine tkW 0 22 rfl rfl ?_ ?_ ?_;rotate_left
        · intro _ _;go_simp<;>(with_reducible rfl)
        simp only[pS];refine tkW 1 23 rfl rfl ?_ ?_ ?_;rotate_left
        · intro _ _;go_simp<;>(with_reducible rfl)
        simp only[pS];refine tkW 2 24 rfl rfl ?_ ?_ ?_;rotate_left
        · intro _ _;go_simp<;>(with_reducible rfl)
        simp only[pS];refine tkW 3 25 rfl rfl ?_ ?_ ?_;rotate_left
        · intro _ _;go_simp<;>(with_reducible rfl)
        simp only[pS];refine tkW 4 26 rfl rfl ?_ ?_ ?_;rotate_left
        · intro _ _;go_simp<;>(with_reducible rfl)
        simp only[pS];refine tkW 5 27 rfl rfl ?_ ?_ ?_;rotate_left
        · intro _ _;go_simp<;>(with_reducible rfl)
        simp only[pS];refine tkW 6 28 rfl rfl ?_ ?_ ?_;rotate_left
        · intro _ _;go_simp<;>(with_reducible rfl)
        simp only[pS];refine tkW 7 29 rfl rfl ?_ ?_ ?_;rotate_left
        · intro _ _;go_simp<;>(with_reducible rfl)
        simp only[pS];refine takeN (i:=8) (k:=30) rfl (by kernel_rfl) (by kernel_rfl) (by kernel_rfl) (by kernel_rfl) (fun _ _ _ h=>h) (by rfl) (by assumption) ?_;simp only[pS];refine takeN (i:=9) (k:=31) rfl (by kernel_rfl) (by kernel_rfl) (by kernel_rfl) (by kernel_rfl) (fun _ _ _ h=>h) (by rfl) (by assumption) ?_;simp only[pS];refine takeN (i:=10) (k:=32) rfl (by kernel_rfl) (by kernel_rfl) (by kernel_rfl) (by kernel_rfl) (fun _ _ _ h=>h) (by rfl) (by assumption) ?_;simp only[pS];refine takeN (i:=11) (k:=33) rfl (by kernel_rfl) (by kernel_rfl) (by kernel_rfl) (by kernel_rfl) (fun _ _ _ h=>h) (by rfl) (by assumption) ?_;simp only[pS];refine takeN (i:=12) (k:=34) rfl (by kernel_rfl) (by kernel_rfl) (by kernel_rfl) (by kernel_rfl) (fun _ _ _ h=>h) (by rfl) (by assumption) ?_;simp only[pS];refine tkW 13 35 rfl rfl ?_ ?_ ?_;rotate_left
        · intro _ _;go_simp<;>(with_reducible rfl)
        simp only[pS];refine tkW 14 36 rfl rfl ?_ ?_ ?_;rotate_left
        · intro _ _;go_simp<;>(with_reducible rfl)
        simp only[pS];refine takeN (i:=15) (k:=37) rfl (by kernel_rfl) (by kernel_rfl) (by kernel_rfl) (by kernel_rfl) (fun _ _ _ h=>h) (by rfl) (by assumption) ?_;simp only[pS];refine takeN (i:=16) (k:=38) rfl (by kernel_rfl) (by kernel_rfl) (by kernel_rfl) (by kernel_rfl) (fun _ _ _ h=>h) (by rfl) (by assumption) ?_;simp only[pS];refine takeN (i:=17) (k:=39) rfl (by kernel_rfl) (by kernel_rfl) (by kernel_rfl) (by kernel_rfl) (fun _ _ _ h=>h) (by rfl) (by assumption) ?_;simp only[pS];refine takeN (i:=18) (k:=40) rfl (by kernel_rfl) (by kernel_rfl) (by kernel_rfl) (by kernel_rfl) (fun _ _ _ h=>h) (by rfl) (by assumption) ?_;simp only[pS];refine takeN (i:=19) (k:=41) rfl (by kernel_rfl) (by kernel_rfl) (by kernel_rfl) (by kernel_rfl) (fun _ _ _ h=>h) (by rfl) (by assumption) ?_;simp only[pS];refine takeN (i:=20) (k:=42) rfl (by kernel_rfl) (by kernel_rfl) (by kernel_rfl) (by kernel_rfl) (fun _ _ _ h=>h) (by rfl) (by assumption) ?_;simp only[pS];refine takeN (i:=21) (k:=43) rfl (by kernel_rfl) (by kernel_rfl) (by kernel_rfl) (by kernel_rfl) (fun _ _ _ h=>h) (by rfl) (by assumption) ?_;simp only[pS];refine takeN (i:=22) (k:=44) rfl (by kernel_rfl) (by kernel_rfl) (by kernel_rfl) (by kernel_rfl) (fun _ _ _ h=>h) (by rfl) (by assumption) ?_;simp only[pS];refine takeN (i:=23) (k:=45) rfl (by kernel_rfl) (by kernel_rfl) (by kernel_rfl) (by kernel_rfl) (fun _ _ _ h=>h) (by rfl) (by assumption) ?_;simp only[pS];refine tkW 24 46 rfl rfl ?_ ?_ ?_;rotate_left
        · intro _ _;go_simp<;>(with_reducible rfl)
        simp only[pS];refine wpAnyH_done (by kernel_rfl) ?_ _;go_wp2_with fail;go_ret;exact⟨by rw[←HF.out];rfl,HW0.out.trans ((below_drew1 wr.heap.size wr).mono HW0.out.size)⟩
    · obtain rfl:j=KL:=by omega
      have hj0:¬(j:Int)<(j:Int):=(by omega);rw[List.drop_of_length_le (by rw[HKL.out];exact Nat.le_refl _),rkidsT]at hsd;have HF:=yH (show some m=r from hsd);obtain⟨n0,n1,n2,n3,n4,n5,n6⟩:=HQN.out;clear hb hlt hj hsd ham;go_wp2_with fail;go_ret;exact⟨by rw[←HF.out];rfl,HW0.out⟩
theorem rwalk_any {w0:World} {np:Option Addr} {nc:Nat} {root:Int} {ns:List Nd} (hN:NsAt w0 (.slice np ns.length nc) ns):∀f,RWalkDo w0 np nc root ns f
  |0=>fun a w _ ha hf=>by omega
  |f+1=>rwalk_next hN (rwalk_any hN f)
end Go.Proofs.YtakceggnadagmaaGreatDoor
