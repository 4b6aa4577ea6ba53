/-
  Proved: contracts of functions, plain facts. Conditions: as each says.
-/
import Derived.Test.YtcpmjkefbjbhpaaGreatDoorSw11
import Derived.Test.YtcpmjkefbjbhpaaGreatDoorSw09
import Derived.Test.YtcpmjkefbjbhpaaGreatDoorSw46
import Derived.Deep.MidRow
import Derived.Great.Ranges
namespace Go.Proofs.YtcpmjkefbjbhpaaGreatDoor
open Go Go.RowKit GlyphMath LexMath TreeMath ShowMath
def framesL:List Fr:= [
  ⟨[115,101,113],[],[59,32],[59,32],[]⟩,
  ⟨[97,110,100],[],[32,38,38,32],[],[]⟩,
  ⟨[111,114],[],[32,124,124,32],[],[]⟩,
  ⟨[110,111,116],[33,32],[],[],[]⟩,
  ⟨[112,105,112,101],[],[32,124,32],[32,124,32],[]⟩,
  ⟨[105,102],[105,102,32],[59,32,116,104,101,110,32],[59,32,101,108,115,101,32],[59,32,102,105]⟩,
  ⟨[119,104,105,108,101],[119,104,105,108,101,32],[59,32,100,111,32],[],[59,32,100,111,110,101]⟩,
  ⟨[117,110,116,105,108],[117,110,116,105,108,32],[59,32,100,111,32],[],[59,32,100,111,110,101]⟩,
  ⟨[102,111,114],[59,32,100,111,32],[],[],[59,32,100,111,110,101]⟩,
  ⟨[102,117,110],[40,41,32],[],[],[]⟩,
  ⟨[103,114,111,117,112],[123,32],[],[],[59,32,125]⟩,
  ⟨[115,117,98],[40,32],[],[],[32,41]⟩]
def frameCells:List Value:=framesL.flatMap fun f=> [txt f.op,txt f.first,txt f.second,txt f.other,txt f.last]
def Frames (w:World):Prop:=w.rangeAt 0 0 frameCells
theorem Frames.below {w w':World} (h:Frames w) (hb:Below w.heap.size w w'):Frames w':=fun j v hj=>wcell_below (h j v hj) hb
theorem info_frames:(Tryz.prog.info? 122).map (·.size)=some frameCells.length:=by kernel_rfl
theorem frame_at (w:World):∀(k:Nat) (f:Fr),framesL[k]? =some f→(Instr.index 122 (.agg frameCells.toArray) (.int .i64 (k:Int))).run Tryz.prog w= .ok (frV f) w
  |0,f,h=>by obtain rfl:=Option.some.inj h;kernel_rfl
  |1,f,h=>by obtain rfl:=Option.some.inj h;kernel_rfl
  |2,f,h=>by obtain rfl:=Option.some.inj h;kernel_rfl
  |3,f,h=>by obtain rfl:=Option.some.inj h;kernel_rfl
  |4,f,h=>by obtain rfl:=Option.some.inj h;kernel_rfl
  |5,f,h=>by obtain rfl:=Option.some.inj h;kernel_rfl
  |6,f,h=>by obtain rfl:=Option.some.inj h;kernel_rfl
  |7,f,h=>by obtain rfl:=Option.some.inj h;kernel_rfl
  |8,f,h=>by obtain rfl:=Option.some.inj h;kernel_rfl
  |9,f,h=>by obtain rfl:=Option.some.inj h;kernel_rfl
  |10,f,h=>by obtain rfl:=Option.some.inj h;kernel_rfl
  |11,f,h=>by obtain rfl:=Option.some.inj h;kernel_rfl
  |k+12,f,h=>by simp[framesL]at h
def midS (ks:List (List UInt8)) (op:List UInt8) (k:Nat):List UInt8:=(((framesL.drop k).filter fun f=>f.op==op).map fun f=>kidsF f 0 ks).flatten
theorem mid_step {ks:List (List UInt8)} {op:List UInt8} {k:Nat} {f:Fr} (h:framesL[k]? =some f):midS ks op k=(if f.op==op then kidsF f 0 ks else [])++midS ks op (k+1):=by
  unfold midS;rw[drop_get h,List.filter_cons]
  split<;>simp
theorem mid_end (ks:List (List UInt8)) (op:List UInt8):midS ks op 12= []:=rfl
def preS (n:Nd) (ks:List (List UInt8)):List UInt8:=
  if n.op= [99,97,115,101]then casesS n ks
  else if n.op= [102,111,114]then [102,111,114,32]++(n.name++([32,105,110,32]++joinS [32] (n.words.map wordS)))
  else if n.op= [102,117,110]then n.name else []
theorem kids_join (o sep:List UInt8):∀ks:List (List UInt8),kidsF ⟨o,[],sep,sep,[]⟩ 0 ks=joinS sep ks
  | []=>rfl
  |a::r=>by
    have h:∀(r:List (List UInt8)) (i:Nat),0<i→kidsF ⟨o,[],sep,sep,[]⟩ i r=(r.map (sep++ ·)).flatten:=by
      intro r
      induction r with
      |nil=>intro i _;rfl
      |cons x r ih=>
        intro i hi
        have ha:aheadS ⟨o,[],sep,sep,[]⟩ i=sep:=by
          unfold aheadS;rw[if_neg (by omega)]
          split<;>rfl
        rw[kidsF,ha,ih (i+1) (by omega),List.map_cons,List.flatten_cons,List.append_assoc]
    rw[kidsF,h r 1 (by omega)];rfl
theorem words_in (l:List (List Pt)):wordsS l++(if l.isEmpty then [32]else [])= [32]++joinS [32] (l.map wordS):=by
  cases l with
  |nil=>rfl
  |cons a r=>
    unfold wordsS;rw[List.map_cons,List.flatten_cons,List.map_cons,joinS,List.map_map];simp only[List.isEmpty_cons,Bool.false_eq_true,if_false,List.append_nil,List.append_assoc];rfl
theorem fits_shape {n:Nd} (h:fitsT n=true):∃s,s∈shapesL∧s.op=n.op∧shapeT s n=true:=by
  unfold fitsT at h
  cases hs:shapesL.find? (fun s=>s.op==n.op)with
  |none=>rw[hs]at h;cases h
  |some s=>
    rw[hs]at h;have h1:=List.find?_some hs;exact⟨s,List.mem_of_find?_eq_some hs,by simpa using h1,h⟩
theorem wlen_one {α:Type} {l:List α} (h:l.length=1):∃a,l= [a]:=by
  match l,h with
  | [a],_=>exact⟨a,rfl⟩
theorem wlen_two {α:Type} {l:List α} (h:l.length=2):∃a b,l= [a,b]:=by
  match l,h with
  | [a,b],_=>exact⟨a,b,rfl⟩
theorem wlen_three {α:Type} {l:List α} (h:l.length=3):∃a b c,l= [a,b,c]:=by
  match l,h with
  | [a,b,c],_=>exact⟨a,b,c,rfl⟩
structure FitOk (n:Nd):Prop where
  words:n.op= [99,97,115,101]→∃x,n.words= [x]
  pats:n.op= [99,97,115,101]→n.pats.length=n.kids.length
  text:∀ks:List (List UInt8),ks.length=n.kids.length→n.op≠ [99,109,100]→nodeT n ks=preS n ks++(midS ks n.op 0++redirsS n.redirs)
set_option maxHeartbeats 1000000 in
theorem fit_ok {n:Nd} (h:fitsT n=true):FitOk n:=by
  obtain⟨s,hs,ho,hf⟩:=fits_shape h;clear h;unfold shapeT hasT at hf;obtain⟨op,nm,kd,wd,pt,as_,rd⟩:=n;dsimp only at ho hf;subst ho;simp only[shapesL,List.mem_cons,List.not_mem_nil,or_false]at hs;have hn:∀ {a b:Prop},a∧b→b:=fun h=>h.2
  rcases hs with rfl|rfl|rfl|rfl|rfl|rfl|rfl|rfl|rfl|rfl|rfl|rfl|rfl|rfl
  all_goals
    simp only[Bool.and_eq_true,decide_eq_true_eq,Bool.false_or,Bool.true_or,List.isEmpty_iff,beq_iff_eq,and_true,if_true,Bool.false_eq_true,if_false]at hf
  · exact⟨(fun e=>by cases e),(fun e=>by cases e),fun _ _ e=>absurd rfl e⟩
  · exact⟨(fun e=>by cases e),(fun e=>by cases e),fun ks hk _=>by
      rw[hf.2.2.2.2.2];show joinS [59,32] ks= []++([kidsF ⟨_,[],[59,32],[59,32],[]⟩ 0 ks].flatten++ [])
      rw[kids_join];simp⟩
  · exact⟨(fun e=>by cases e),(fun e=>by cases e),fun ks hk _=>by
      rw[hf.2.2.2.2.2];obtain⟨a,b,rfl⟩:=wlen_two (l:=ks) (by simp only at hk;omega);show joinS [32,38,38,32] [a,b]= []++([kidsF ⟨_,[],[32,38,38,32],[],[]⟩ 0 [a,b]].flatten++ [])
      simp[joinS,kidsF,aheadS]⟩
  · exact⟨(fun e=>by cases e),(fun e=>by cases e),fun ks hk _=>by
      rw[hf.2.2.2.2.2];obtain⟨a,b,rfl⟩:=wlen_two (l:=ks) (by simp only at hk;omega);show joinS [32,124,124,32] [a,b]= []++([kidsF ⟨_,[],[32,124,124,32],[],[]⟩ 0 [a,b]].flatten++ [])
      simp[joinS,kidsF,aheadS]⟩
  · exact⟨(fun e=>by cases e),(fun e=>by cases e),fun ks hk _=>by
      rw[hf.2.2.2.2.2];obtain⟨a,rfl⟩:=wlen_one (l:=ks) (by simp only at hk;omega);show [33,32]++a= []++([kidsF ⟨_,[33,32],[],[],[]⟩ 0 [a]].flatten++ [])
      simp[kidsF,aheadS]⟩
  · exact⟨(fun e=>by cases e),(fun e=>by cases e),fun ks hk _=>by
      rw[hf.2.2.2.2.2];show joinS [32,124,32] ks= []++([kidsF ⟨_,[],[32,124,32],[32,124,32],[]⟩ 0 ks].flatten++ [])
      rw[kids_join];simp⟩
  · exact⟨(fun e=>by cases e),(fun e=>by cases e),fun ks hk _=>by
      have h23:ks.length=2∨ks.length=3:=by simp only at hk;omega
      rcases h23 with h|h
      · obtain⟨a,b,rfl⟩:=wlen_two h
        show ifS [a,b]++redirsS rd= []++([kidsF ⟨_,[105,102,32],[59,32,116,104,101,110,32],[59,32,101,108,115,101,32],[59,32,102,105]⟩ 0 [a,b]].flatten++redirsS rd);simp[ifS,kidsF,aheadS]
      · obtain⟨a,b,c,rfl⟩:=wlen_three h
        show ifS [a,b,c]++redirsS rd= []++([kidsF ⟨_,[105,102,32],[59,32,116,104,101,110,32],[59,32,101,108,115,101,32],[59,32,102,105]⟩ 0 [a,b,c]].flatten++redirsS rd)
        simp[ifS,kidsF,aheadS]⟩
  · exact⟨(fun e=>by cases e),(fun e=>by cases e),fun ks hk _=>by
      obtain⟨a,b,rfl⟩:=wlen_two (l:=ks) (by simp only at hk;omega);show loopS [119,104,105,108,101] [a,b]++redirsS rd= []++([kidsF ⟨_,[119,104,105,108,101,32],[59,32,100,111,32],[],[59,32,100,111,110,101]⟩ 0 [a,b]].flatten++redirsS rd)
      simp[loopS,at0,kidsF,aheadS]⟩
  · exact⟨(fun e=>by cases e),(fun e=>by cases e),fun ks hk _=>by
      obtain⟨a,b,rfl⟩:=wlen_two (l:=ks) (by simp only at hk;omega);show loopS [117,110,116,105,108] [a,b]++redirsS rd= []++([kidsF ⟨_,[117,110,116,105,108,32],[59,32,100,111,32],[],[59,32,100,111,110,101]⟩ 0 [a,b]].flatten++redirsS rd)
      simp[loopS,at0,kidsF,aheadS]⟩
  · exact⟨(fun e=>by cases e),(fun e=>by cases e),fun ks hk _=>by
      obtain⟨a,rfl⟩:=wlen_one (l:=ks) (by simp only at hk;omega);have hw:=words_in wd;show([102,111,114,32]++nm++ [32,105,110]++wordsS wd++(if wd.isEmpty then [32]else [])++ [59,32,100,111,32]++at0 [a] 0++ [59,32,100,111,110,101])++redirsS rd=([102,111,114,32]++(nm++([32,105,110,32]++joinS [32] (wd.map wordS))))++([kidsF ⟨_,[59,32,100,111,32],[],[],[59,32,100,111,110,101]⟩ 0 [a]].flatten++redirsS rd);have e:([32,105,110]:List UInt8)++([32]++joinS [32] (wd.map wordS))= [32,105,110,32]++joinS [32] (wd.map wordS):=rfl;rw[←e,←hw]
      simp[at0,kidsF,aheadS]⟩
  · exact⟨fun _=>wlen_one (by simp only;omega),fun _=>by simp only;exact hf.2.2.2.1,fun ks hk _=>by
      show casesS _ ks++redirsS rd=casesS _ ks++([]++redirsS rd)
      rfl⟩
  · exact⟨(fun e=>by cases e),(fun e=>by cases e),fun ks hk _=>by
      rw[hf.2.2.2.2.2];obtain⟨a,rfl⟩:=wlen_one (l:=ks) (by simp only at hk;omega);show nm++ [40,41,32]++at0 [a] 0=nm++([kidsF ⟨_,[40,41,32],[],[],[]⟩ 0 [a]].flatten++ [])
      simp[at0,kidsF,aheadS]⟩
  · exact⟨(fun e=>by cases e),(fun e=>by cases e),fun ks hk _=>by
      obtain⟨a,rfl⟩:=wlen_one (l:=ks) (by simp only at hk;omega);show([123,32]++at0 [a] 0++ [59,32,125])++redirsS rd= []++([kidsF ⟨_,[123,32],[],[],[59,32,125]⟩ 0 [a]].flatten++redirsS rd)
      simp[at0,kidsF,aheadS]⟩
  · exact⟨(fun e=>by cases e),(fun e=>by cases e),fun ks hk _=>by
      obtain⟨a,rfl⟩:=wlen_one (l:=ks) (by simp only at hk;omega);show([40,32]++at0 [a] 0++ [32,41])++redirsS rd= []++([kidsF ⟨_,[40,32],[],[],[32,41]⟩ 0 [a]].flatten++redirsS rd)
      simp[at0,kidsF,aheadS]⟩
theorem redirs_step {l:List (List UInt8×List Pt)} {j:Nat} {x:List UInt8×List Pt} (h:l[j]? =some x):redirsS (l.drop j)= [32]++(redirOne x++redirsS (l.drop (j+1))):=by
  unfold redirsS redirOne;rw[drop_get h,List.map_cons,List.flatten_cons];simp only[List.append_assoc]
set_option maxHeartbeats 8000000 in
set_option maxRecDepth 100000 in
theorem wnode_next {w0:World} {b:Nat} {nv:Value} {ns:List Nd} (hF:Frames w0) (hv:NsAt w0 nv ns) {f:Nat} (hN:ONode w0 b nv ns f):ONode w0 b nv ns (f+1):=by
  intro i w l hok hb hw hL;obtain⟨n,hi,hfit,hsp,hkids⟩:=hok;have htext:nodeS ns (f+1) i=nodeT n (n.kids.map fun k=>nodeS ns f k.toNat):=(by rw[nodeS,hi]);rw[htext]at hL ⊢;have hfo:=fit_ok hfit;have hno:=node_ok hsp;have hcell:=hw.nodes;have hlen:=hv.few;obtain⟨⟨np,nc,rfl,hat⟩, -⟩:=hv;obtain⟨cs,hspot,hnd⟩:=hat i n hi;have hil:i<ns.length:=(List.getElem?_eq_some_iff.1 hi).1;obtain⟨KS,hKS⟩:∃ks,(n.kids.map fun k=>nodeS ns f k.toNat)=ks:=⟨_,rfl⟩;have hksl:KS.length=n.kids.length:=(by rw[←hKS,List.length_map]);replace hspot:=hspot.below hb;obtain⟨bk,o,rfl,hc⟩:=id hspot;clear hspot;have hnd0:=hnd;obtain⟨kv,wv,pv,av,rv,rfl,hkv,hwv,hpv,hav,hrv⟩:=hnd.is;have c0:=hc 0 _ rfl;rw[Nat.add_zero]at c0;have c1:=hc 1 _ rfl;have c2:=hc 2 _ rfl;have c3:=hc 3 _ rfl;have c4:=hc 4 _ rfl;have c5:=hc 5 _ rfl;have c6:=hc 6 _ rfl;have HKID:=yH (fun (fr:Fr) (W:World) (m:List UInt8) h1 h2 (hm:m.length+(kidsF fr 0 KS).length≤BigW)=>wkids_any (w:=W) (l:=m) hN fr hnd0 hkids h1 h2 (by rw[hKS];exact hm));rw[hKS]at HKID hL ⊢;have H0:=yH (And.intro hw (And.intro hb hb.size));have HXB:=yH (show w.heap.size≠b by have:=hw.lt;omega);have HLT:=yH hw.lt;have HF:=yH (fun W (h:Below w0.heap.size w0 W)=>hF.below h);have hrl:=hrv.few;have hwl:=hwv.few;obtain⟨⟨rp,rc,rfl,hrat⟩, -⟩:=hrv;obtain⟨⟨wp,wc,rfl, -⟩, -⟩:=id hwv;obtain⟨⟨kp,kc,rfl, -⟩, -⟩:=hkv;obtain⟨⟨pp,pc,rfl, -⟩, -⟩:=hpv;obtain⟨⟨ap,ac,rfl, -⟩, -⟩:=hav;have HRAT:=yH hrat;have HDR:=yH hno.redirs;unfold Puts;show Calls Tryz.prog 34 #[.pointer (some ⟨b,0,none⟩),.int .i64 (i:Int)] w _;have hl0:(i:Int)<(ns.length:Int):=(by omega);have hl1:(ns.length:Int)≤2^63-1:=(by unfold maxLen at hlen;omega);obtain⟨NL,hNL⟩:∃N,ns.length=N:=⟨_,rfl⟩;rw[hNL]at hcell hl0 hl1
  by_cases hcmd:n.op= [99,109,100]
  · have e:nodeT n KS=cmdS n:=by unfold nodeT;rw[if_pos hcmd]
    rw[e]at hL ⊢;have HC:=yH (fun W h1 h2=>wcmd_any (w:=W) (b:=b) (nv:= .slice (some ⟨bk,o,none⟩) ns.length nc) (l:=l) hnd0 hno h1 h2 hL);rw[hNL]at HC;obtain⟨O,hO⟩:∃O,T n.op=O:=⟨_,rfl⟩;obtain⟨M,hM⟩:∃M,T n.name=M:=⟨_,rfl⟩;have HC:=yH (show ∀W,Below w0.heap.size w0 W→Wr W w0.heap.size b (.slice (some ⟨bk,o,none⟩) NL nc) l→Calls Tryz.prog 72 #[.pointer (some ⟨b,0,none⟩),.agg #[.string O,.string M,.slice kp n.kids.length kc,.slice wp n.words.length wc,.slice pp n.pats.length pc,.slice ap n.assigns.length ac,.slice rp n.redirs.length rc]] W fun e w'=>e= .returned (.tuple #[])∧Wr w' w0.heap.size b (.slice (some ⟨bk,o,none⟩) NL nc) (l++cmdS n)∧Ws w0.heap.size b W w' from by rw[←hO,←hM];exact HC.out);rw[hNL]at H0 ⊢;have h1:(O.toList== [99,109,100])=true:=(by rw[←hO,hcmd,wis_text];decide);have d0:w.cell? ⟨bk,o+i*7,none⟩=some (.string O):=(by rw[←hO];exact c0);have d1:w.cell? ⟨bk,o+i*7+1,none⟩=some (.string M):=(by rw[←hM];exact c1);clear c0 c1 HKID HRAT HDR HF hF hfo hno hkids hfit hsp hi hat hnd hnd0 hc hN htext hL hw hb hKS hksl hrat hrl hwl hlen hO hM e hNL hcmd hil hwv
    generalize n.kids.length=KL at HC c2 ⊢
    generalize n.words.length=WL at HC c3 ⊢
    generalize n.pats.length=PL at HC c4 ⊢
    generalize n.assigns.length=AL at HC c5 ⊢
    generalize n.redirs.length=RL at HC c6 ⊢
    go_enter Tryz.func34,Tryz.ntmps34
    go_wp2_with (go_at_call 72;refine(HC.out _ (H0.out.2.1.alloc H0.out.2.2 _) (H0.out.1.alloc _)).mono ?_;rintro e w2 ⟨rfl,hw2,hs2⟩;have H2:=yH (And.intro hw2 (((Ws.refl _ b w).alloc H0.out.2.2 _).trans hs2));clear hw2 hs2)
    refine bodyPost_ret (results_none rfl _ _ _) rfl ?_;exact⟨rfl,H2.out⟩
  · rw[hfo.text KS hksl hcmd]at hL ⊢
    obtain⟨m1,hm1⟩:∃m1,l++preS n KS=m1:=⟨_,rfl⟩;obtain⟨R,hRR⟩:∃R,l++(preS n KS++(midS KS n.op 0++redirsS n.redirs))=R:=⟨_,rfl⟩;have hRL:=congrArg List.length hRR;have hml:=congrArg List.length hm1;simp only[List.length_append]at hRL hml hL;have HL:=yH (show R.length≤BigW by omega);have HR:=yH (show m1++(midS KS n.op 0++redirsS n.redirs)=R by rw[←hRR,←hm1];simp only[List.append_assoc]);rw[hRR]
    have HCASE:=yH (fun (e:n.op= [99,97,115,101]) W h1 h2=>by
      obtain⟨x0,hx0⟩:=hfo.words e;have:=wcase_any (w:=W) (l:=l) hN hnd0 hno hx0 (hfo.pats e) hkids h1 h2 (by rw[hKS];have hp:preS n KS=casesS n KS:=(by unfold preS;rw[if_pos e]);rw[←hp];omega);rw[hKS]at this
      exact this)
    have HWORDS:=yH (fun W m h1 h2 (h3:m.length+(joinS [32] (n.words.map wordS)).length≤BigW)=>wwords_any (w:=W) (b:=b) (nv:= .slice (some ⟨bk,o,none⟩) ns.length nc) (sep:= [32]) (l:=m) hwv hno.words h1 h2 h3)
    have hcases:(n.op= [99,97,115,101]∧m1=l++casesS n KS)∨(n.op= [102,111,114]∧m1=(l++ [[102,111,114,32],n.name,[32,105,110,32]].flatten)++joinS [32] (n.words.map wordS))∨(n.op= [102,117,110]∧m1=l++ [n.name].flatten)∨(n.op≠ [99,97,115,101]∧n.op≠ [102,111,114]∧n.op≠ [102,117,110]∧m1=l):=by
      rw[←hm1];unfold preS
      by_cases e1:n.op= [99,97,115,101]
      · rw[if_pos e1];exact .inl ⟨e1,rfl⟩
      · rw[if_neg e1]
        by_cases e2:n.op= [102,111,114]
        · rw[if_pos e2];exact .inr (.inl ⟨e2,by simp⟩)
        · rw[if_neg e2]
          by_cases e3:n.op= [102,117,110]
          · rw[if_pos e3];exact .inr (.inr (.inl ⟨e3,by simp⟩))
          · rw[if_neg e3];exact .inr (.inr (.inr ⟨e1,e2,e3,by simp⟩))
    have HM1:=yH (show m1.length≤BigW by omega);have HPUT:=yH (fun (m:List UInt8) (ss:List (List UInt8)) h1 h2=>wput_at w0.heap.size b (.slice (some ⟨bk,o,none⟩) ns.length nc) m ss h1 h2);obtain⟨O,hO⟩:∃O,T n.op=O:=⟨_,rfl⟩;obtain⟨M,hM⟩:∃M,T n.name=M:=⟨_,rfl⟩;obtain⟨RN,hRN⟩:∃A,n.redirs.length=A:=⟨_,rfl⟩;have HRN:=yH hRN;have hRN0:(RN:Int)≤2^63-1:=(by unfold maxLen at hrl;omega);replace HCASE:=yH (show n.op= [99,97,115,101]→∀W,Below w0.heap.size w0 W→Wr W w0.heap.size b (.slice (some ⟨bk,o,none⟩) NL nc) l→Calls Tryz.prog 73 #[.pointer (some ⟨b,0,none⟩),.agg #[.string O,.string M,.slice kp n.kids.length kc,.slice wp n.words.length wc,.slice pp n.pats.length pc,.slice ap n.assigns.length ac,.slice rp RN rc]] W fun e w'=>e= .returned (.tuple #[])∧Wr w' w0.heap.size b (.slice (some ⟨bk,o,none⟩) NL nc) (l++casesS n KS)∧Ws w0.heap.size b W w' from by rw[←hO,←hM,←hRN,←hNL];exact HCASE.out)
    replace HKID:=yH (show ∀(fo f1 f2 f3 f4:List UInt8) (FO F1 F2 F3 F4:ByteArray),T fo=FO→T f1=F1→T f2=F2→T f3=F3→T f4=F4→∀(W:World) (m:List UInt8),Below w0.heap.size w0 W→Wr W w0.heap.size b (.slice (some ⟨bk,o,none⟩) NL nc) m→m.length+(kidsF ⟨fo,f1,f2,f3,f4⟩ 0 KS).length≤BigW→Calls Tryz.prog 76 #[.pointer (some ⟨b,0,none⟩),.agg #[.string O,.string M,.slice kp n.kids.length kc,.slice wp n.words.length wc,.slice pp n.pats.length pc,.slice ap n.assigns.length ac,.slice rp RN rc],.agg #[.string FO,.string F1,.string F2,.string F3,.string F4]] W fun e w'=>e= .returned (.tuple #[])∧Wr w' w0.heap.size b (.slice (some ⟨bk,o,none⟩) NL nc) (m++kidsF ⟨fo,f1,f2,f3,f4⟩ 0 KS)∧Ws w0.heap.size b W w' from by
      rintro fo f1 f2 f3 f4 FO F1 F2 F3 F4 rfl rfl rfl rfl rfl W m h1 h2 h3;rw[←hO,←hM,←hRN];rw[hNL]at HKID
      exact HKID.out ⟨fo,f1,f2,f3,f4⟩ W m h1 h2 h3)
    replace HWORDS:=yH (show ∀W m,Below w0.heap.size w0 W→Wr W w0.heap.size b (.slice (some ⟨bk,o,none⟩) NL nc) m→m.length+(joinS [32] (n.words.map wordS)).length≤BigW→Calls Tryz.prog 75 #[.pointer (some ⟨b,0,none⟩),.slice wp n.words.length wc,.string ⟨#[32]⟩] W fun e w'=>e= .returned (.tuple #[])∧Wr w' w0.heap.size b (.slice (some ⟨bk,o,none⟩) NL nc) (m++joinS [32] (n.words.map wordS))∧Ws w0.heap.size b W w' from by rw[←hNL];exact HWORDS.out);rw[hNL]at HPUT H0 ⊢;have d0:w.cell? ⟨bk,o+i*7,none⟩=some (.string O):=(by rw[←hO];exact c0);have d1:w.cell? ⟨bk,o+i*7+1,none⟩=some (.string M):=(by rw[←hM];exact c1);rw[hRN]at c6;have HOP:=yH (show ∀m:List UInt8,(O.toList==m)=(n.op==m)from fun m=>by rw[←hO,wis_text]);have HMT:=yH hM;have HNM:=yH hcmd;obtain⟨JW,hJW⟩:∃JW,joinS [32] (n.words.map wordS)=JW:=⟨_,rfl⟩;obtain⟨CW,hCW⟩:∃CW,casesS n KS=CW:=⟨_,rfl⟩;rw[hJW]at HWORDS hcases;rw[hCW]at HCASE hcases;obtain⟨nop,hnop⟩:∃x,n.op=x:=⟨_,rfl⟩;obtain⟨nnm,hnnm⟩:∃x,n.name=x:=⟨_,rfl⟩;obtain⟨rds,hrds⟩:∃x,n.redirs=x:=⟨_,rfl⟩;rw[hnop]at HCASE HOP HNM HR hcases;rw[hnnm]at HMT hcases;rw[hrds]at HRAT HDR HR HRN;obtain⟨V,hV⟩:∃V,Value.agg frameCells.toArray=V:=⟨_,rfl⟩;have HIX:=yH (show ∀(k:Nat) (s:Fr),framesL[k]? =some s→∀W,(Instr.index 122 V (.int .i64 (k:Int))).run Tryz.prog W= .ok (frV s) W from fun k s h W=>by rw[←hV];exact frame_at W k s h);have HV:=yH hV;clear c0 c1 hF hfo hno hkids hfit hsp hi hat hnd hnd0 hc hN htext hL hw hb hKS hksl hrat hrl hwl hlen hO hM hNL hcmd hil hwv hRR hRL hml hm1 hRN hJW hCW hnop hnnm hrds hV
    generalize n.kids.length=KL at HCASE HKID c2 ⊢
    generalize n.words.length=WL at HCASE HKID HWORDS c3 ⊢
    generalize n.pats.length=PL at HCASE HKID c4 ⊢
    generalize n.assigns.length=AL at HCASE HKID c5 ⊢
    clear n;have HBX:=yH (heap_alloc_new w (.cells #[.string O,.string M,.slice kp KL kc,.slice wp WL wc,.slice pp PL pc,.slice ap AL ac,.slice rp RN rc] 41));have HW1:=yH (show Wr (w.alloc (.cells #[.string O,.string M,.slice kp KL kc,.slice wp WL wc,.slice pp PL pc,.slice ap AL ac,.slice rp RN rc] 41)) w0.heap.size b (.slice (some ⟨bk,o,none⟩) NL nc) l∧Ws w0.heap.size b w (w.alloc (.cells #[.string O,.string M,.slice kp KL kc,.slice wp WL wc,.slice pp PL pc,.slice ap AL ac,.slice rp RN rc] 41))from ⟨H0.out.1.alloc _,(Ws.refl _ _ _).alloc H0.out.2.2 _⟩);have HS1:=yH (show w0.heap.size≤(w.alloc (.cells #[.string O,.string M,.slice kp KL kc,.slice wp WL wc,.slice pp PL pc,.slice ap AL ac,.slice rp RN rc] 41)).heap.size from by simp;have:=H0.out.2.2;omega);have z1:(O.toList== [99,109,100])=false:=(by rw[HOP.out];simpa using HNM.out)
    rcases hcases with ⟨e,rfl⟩|⟨e,rfl⟩|⟨e,rfl⟩|⟨e1,e2,e3,rfl⟩
    case' inl=>
      have z2:(O.toList== [99,97,115,101])=true:=(by rw[HOP.out,e];decide);have HC:=yH (HCASE.out e);clear HPUT HWORDS HCASE e;go_enter Tryz.func34,Tryz.ntmps34
      go_wp2_with (first|(refine wpList_load_mid (by rfl) 122 (.global 0) (by rfl) 0 0 (by rfl) frameCells _ (HF.out _ (H0.out.2.1.trans H2.out.2.below)) Tryz.underlying122 (by rfl) info_frames ?_;rw[HV.out])|(go_at_call 73;refine(HC.out _ (H0.out.2.1.trans HW1.out.2.below) HW1.out.1).mono ?_;rintro e w2 ⟨rfl,hw2,hs2⟩;have hk2:=cells_kept HBX.out hs2 HXB.out (by decide);obtain⟨k0,k1,k2,k3,k4,k5,k6⟩:=wnode_cells hk2;have H2:=yH (And.intro hw2 (HW1.out.2.trans hs2));have HK2:=yH hk2;clear hw2 hs2 hk2))
    case' inr.inl=>
      have z2:(O.toList== [99,97,115,101])=false:=(by rw[HOP.out,e];decide);have z3:(O.toList== [102,111,114])=true:=(by rw[HOP.out,e];decide);obtain⟨m2,hm2⟩:∃m2,l++ [[102,111,114,32],nnm,[32,105,110,32]].flatten=m2:=⟨_,rfl⟩;have HM2:=HM1.out;rw[hm2]at HM2;simp only[List.length_append]at HM2;have HP:=yH (HPUT.out l [[102,111,114,32],nnm,[32,105,110,32]] (by have:=congrArg List.length hm2;rw[List.length_append]at this;omega) (by simp));have HP:=yH (show ∀(W:World) (n:Nat),n=W.heap.size→Wr W w0.heap.size b (.slice (some ⟨bk,o,none⟩) NL nc) l→w0.heap.size≤W.heap.size→Calls Tryz.prog 74 #[.pointer (some ⟨b,0,none⟩),.slice (some ⟨n,0,none⟩) 3 3] (W.alloc (.cells #[.string ⟨#[102,111,114,32]⟩,.string M,.string ⟨#[32,105,110,32]⟩] 9)) fun e w'=>e= .returned (.tuple #[])∧Wr w' w0.heap.size b (.slice (some ⟨bk,o,none⟩) NL nc) m2∧Ws w0.heap.size b W w' from by rw[←HMT.out,←hm2];exact HP.out);have HC:=yH (fun W h1 h2=>HWORDS.out W m2 h1 h2 HM2);rw[hm2]at HR HM1;clear HPUT HWORDS HCASE e hm2 HM2;go_enter Tryz.func34,Tryz.ntmps34
      go_wp2_with (first|(refine wpList_load_mid (by rfl) 122 (.global 0) (by rfl) 0 0 (by rfl) frameCells _ (HF.out _ (H0.out.2.1.trans H2.out.2.below)) Tryz.underlying122 (by rfl) info_frames ?_;rw[HV.out])|(go_at_call 74;refine(HP.out _ _ (by simp) HW1.out.1 HS1.out).mono ?_;rintro e w5 ⟨rfl,hw2,hs2⟩;have hk2:=cells_kept HBX.out hs2 HXB.out (by decide);obtain⟨k0,k1,k2,k3,k4,k5,k6⟩:=wnode_cells hk2;have H5:=yH (And.intro hw2 (HW1.out.2.trans hs2));have HK5:=yH hk2;clear hw2 hs2 hk2)|(go_at_call 75;refine(HC.out _ (H0.out.2.1.trans H5.out.2.below) H5.out.1).mono ?_;rintro e w2 ⟨rfl,hw2,hs2⟩;have hk2:=cells_kept HK5.out hs2 HXB.out (by decide);clear k0 k1 k2 k3 k4 k5 k6;obtain⟨k0,k1,k2,k3,k4,k5,k6⟩:=wnode_cells hk2;have H2:=yH (And.intro hw2 (H5.out.2.trans hs2));have HK2:=yH hk2;clear hw2 hs2 hk2))
    case' inr.inr.inl=>
      have z2:(O.toList== [99,97,115,101])=false:=(by rw[HOP.out,e];decide);have z3:(O.toList== [102,111,114])=false:=(by rw[HOP.out,e];decide);have z4:(O.toList== [102,117,110])=true:=(by rw[HOP.out,e];decide);have HP:=yH (HPUT.out l [nnm] (by have:=HM1.out;rwa [List.length_append]at this) (by simp));have HP:=yH (show ∀(W:World) (n:Nat),n=W.heap.size→Wr W w0.heap.size b (.slice (some ⟨bk,o,none⟩) NL nc) l→w0.heap.size≤W.heap.size→Calls Tryz.prog 74 #[.pointer (some ⟨b,0,none⟩),.slice (some ⟨n,0,none⟩) 1 1] (W.alloc (.cells #[.string M] 9)) fun e w'=>e= .returned (.tuple #[])∧Wr w' w0.heap.size b (.slice (some ⟨bk,o,none⟩) NL nc) (l++ [nnm].flatten)∧Ws w0.heap.size b W w' from by rw[←HMT.out];exact HP.out);clear HPUT HWORDS HCASE e;go_enter Tryz.func34,Tryz.ntmps34
      go_wp2_with (first|(refine wpList_load_mid (by rfl) 122 (.global 0) (by rfl) 0 0 (by rfl) frameCells _ (HF.out _ (H0.out.2.1.trans H2.out.2.below)) Tryz.underlying122 (by rfl) info_frames ?_;rw[HV.out])|(go_at_call 74;refine(HP.out _ _ (by simp) HW1.out.1 HS1.out).mono ?_;rintro e w2 ⟨rfl,hw2,hs2⟩;have hk2:=cells_kept HBX.out hs2 HXB.out (by decide);obtain⟨k0,k1,k2,k3,k4,k5,k6⟩:=wnode_cells hk2;have H2:=yH (And.intro hw2 (HW1.out.2.trans hs2));have HK2:=yH hk2;clear hw2 hs2 hk2))
    case' inr.inr.inr=>
      have z2:(O.toList== [99,97,115,101])=false:=(by rw[HOP.out];simpa using e1);have z3:(O.toList== [102,111,114])=false:=(by rw[HOP.out];simpa using e2);have z4:(O.toList== [102,117,110])=false:=(by rw[HOP.out];simpa using e3);clear HPUT HWORDS HCASE e1 e2 e3;go_enter Tryz.func34,Tryz.ntmps34;obtain⟨w2,hw2⟩:∃w2,w.alloc (.cells #[.string O,.string M,.slice kp KL kc,.slice wp WL wc,.slice pp PL pc,.slice ap AL ac,.slice rp RN rc] 41)=w2:=⟨_,rfl⟩;have H2:=HW1;have HK2:=HBX;rw[hw2]at H2 HK2;obtain⟨k0,k1,k2,k3,k4,k5,k6⟩:=wnode_cells HK2.out
      go_wp2_with (first|(refine wpList_load_mid (by rfl) 122 (.global 0) (by rfl) 0 0 (by rfl) frameCells _ (HF.out _ (H0.out.2.1.trans H2.out.2.below)) Tryz.underlying122 (by rfl) info_frames ?_;rw[HV.out])|(rw[hw2];clear hw2))
    all_goals
      clear k0 k1 k2 k3 k4 k5 k6;have hkeep:∀wr,Ws w0.heap.size b w2 wr→wr.heap[w.heap.size]? =some (.cells #[.string O,.string M,.slice kp KL kc,.slice wp WL wc,.slice pp PL pc,.slice ap AL ac,.slice rp RN rc] 41 (0,0)):=fun wr hs=>cells_kept HK2.out hs HXB.out (by decide);have HKEEP:=yH hkeep;have HB2:=yH (Nat.le_trans H0.out.2.2 H2.out.2.below.size);have HX2:=yH (show b<w2.heap.size by have:=HLT.out;have:=H2.out.2.below.size;omega);clear hkeep
      go_loopw [47] (fun i wr=> ∃(k:Nat) (m:List UInt8),i= .int .i64 (k:Int)∧k≤12∧Wr wr w0.heap.size b (.slice (some ⟨bk,o,none⟩) NL nc) m∧Ws w0.heap.size b w2 wr∧m++(midS KS nop k++redirsS rds)=R) (fun i _=>12-(intOf i).toNat)
      case atStart=>exact⟨0,_,rfl,by omega,H2.out.1,Ws.refl _ _ _,HR.out⟩
      case round=>
        obtain⟨k,m,rfl,hk,hw,hs,hr⟩:=hrel;have hb:=H0.out.2.1.trans (H2.out.2.trans hs).below;obtain⟨k0,k1,k2,k3,k4,k5,k6⟩:=wnode_cells (HKEEP.out wr hs)
        by_cases hlt:k<12
        · obtain⟨fr,hfr⟩:∃s,framesL[k]? =some s:=⟨_,List.getElem?_eq_getElem hlt⟩
          have HIK:=yH (HIX.out k fr hfr);rw[mid_step hfr]at hr;have hl:=congrArg List.length hr;simp only[List.length_append]at hl;have HL1:=HL.out;have hk0:(k:Int)<12:=(by omega);have HJ:=yH hlt;obtain⟨fo,f1,f2,f3,f4⟩:=fr;obtain⟨FO,hFO⟩:∃O,T fo=O:=⟨_,rfl⟩;obtain⟨F1,hF1⟩:∃O,T f1=O:=⟨_,rfl⟩;obtain⟨F2,hF2⟩:∃O,T f2=O:=⟨_,rfl⟩;obtain⟨F3,hF3⟩:∃O,T f3=O:=⟨_,rfl⟩;obtain⟨F4,hF4⟩:∃O,T f4=O:=⟨_,rfl⟩;have HIK:=yH (show ∀W,(Instr.index 122 V (.int .i64 (k:Int))).run Tryz.prog W= .ok (.agg #[.string FO,.string F1,.string F2,.string F3,.string F4]) W from by rw[←hFO,←hF1,←hF2,←hF3,←hF4];exact HIK.out);have HC:=yH (fun W h1 h2 h3=>HKID.out fo f1 f2 f3 f4 FO F1 F2 F3 F4 hFO hF1 hF2 hF3 hF4 W m h1 h2 h3);have hz:(FO.toList==O.toList)=(fo==nop):=(by rw[show FO.toList=fo from by rw[←hFO,Lib.toList_data],BEq.comm,HOP.out,BEq.comm]);have HS:=yH (And.intro hs (And.intro hw hb));have hXw:w.heap.size<wr.heap.size:=(gS.1 (HKEEP.out wr hs)).1;have HKX:=yH (HKEEP.out wr hs);have HBR:=yH (Nat.le_trans HB2.out hs.below.size);have HXR:=yH (show wr.heap.size≠b by have:=HX2.out;have:=hs.below.size;omega);obtain⟨Q,hQ⟩:∃Q,(fo==nop)=Q:=⟨_,rfl⟩;rw[hQ]at hz hr hl;have k0:=wcell_below k0 (below_one wr (.cells #[.string FO,.string F1,.string F2,.string F3,.string F4] 121));have k1:=wcell_below k1 (below_one wr (.cells #[.string FO,.string F1,.string F2,.string F3,.string F4] 121));have k2:=wcell_below k2 (below_one wr (.cells #[.string FO,.string F1,.string F2,.string F3,.string F4] 121));have k3:=wcell_below k3 (below_one wr (.cells #[.string FO,.string F1,.string F2,.string F3,.string F4] 121));have k4:=wcell_below k4 (below_one wr (.cells #[.string FO,.string F1,.string F2,.string F3,.string F4] 121));have k5:=wcell_below k5 (below_one wr (.cells #[.string FO,.string F1,.string F2,.string F3,.string F4] 121));have k6:=wcell_below k6 (below_one wr (.cells #[.string FO,.string F1,.string F2,.string F3,.string F4] 121))
          cases Q with
          |true=>
            rw[if_pos rfl]at hr hl;have HKL:=yH (show m.length+(kidsF ⟨fo,f1,f2,f3,f4⟩ 0 KS).length≤BigW by omega);obtain⟨ks,hks⟩:∃ks,kidsF ⟨fo,f1,f2,f3,f4⟩ 0 KS=ks:=⟨_,rfl⟩;rw[hks]at hr HC HKL;have HRR:=yH (show(m++ks)++(midS KS nop (k+1)++redirsS rds)=R from by rw[←hr];simp only[List.append_assoc]);clear hr hl hk hlt hw hs hb hks HL1 hFO hF1 hF2 hF3 hF4 hQ hfr hXw
            go_wp2_with (first|(refine wpList_index (by rfl) 122 (.tmp 46) (.tmp 47) (by rfl) V (.int .i64 (k:Int)) _ (by rfl) (by rfl) (HIK.out _) ?_)|(go_at_call 76;refine(HC.out _ (HS.out.2.2.alloc HBR.out _) (HS.out.2.1.alloc _) HKL.out).mono ?_;rintro e w3 ⟨rfl,hw3,hs3⟩;have H3:=yH (And.intro hw3 (((HS.out.1).alloc HB2.out _).trans hs3));clear hw3 hs3))
            exact⟨⟨k+1,_,by go_num,by have:=HJ.out;omega,H3.out.1,H3.out.2,HRR.out⟩,by have:=HJ.out;simp[intOf];omega⟩
          |false=>
            rw[if_neg (by simp),List.nil_append]at hr;have HRR:=yH hr;clear hr hl hk hlt hw hs hb HL1 hFO hF1 hF2 hF3 hF4 hQ hfr hXw HC
            go_wp2_with (refine wpList_index (by rfl) 122 (.tmp 46) (.tmp 47) (by rfl) V (.int .i64 (k:Int)) _ (by rfl) (by rfl) (HIK.out _) ?_)
            exact⟨⟨k+1,_,by go_num,by have:=HJ.out;omega,HS.out.2.1.alloc _,(HS.out.1).alloc HB2.out _,HRR.out⟩,by have:=HJ.out;simp[intOf];omega⟩
        · obtain rfl:k=12:=by omega
          rw[mid_end,List.nil_append]at hr;have HW:=yH (And.intro hw (And.intro hs hr));clear hr hw hs hb hk hlt;go_wp2_with fail;clear k0 k1 k2 k3 k4 k5 k6
          go_loopw [63] (fun i wr2=> ∃(j:Nat) (m:List UInt8),i= .int .i64 (j:Int)∧j≤RN∧Wr wr2 w0.heap.size b (.slice (some ⟨bk,o,none⟩) NL nc) m∧Ws w0.heap.size b w2 wr2∧m++redirsS (rds.drop j)=R) (fun i _=>RN-(intOf i).toNat)
          case atStart=>exact⟨0,m,rfl,Nat.zero_le _,HW.out.1,HW.out.2.1,by rw[List.drop_zero];exact HW.out.2.2⟩
          case round=>
            obtain⟨j,m,rfl,hj,hw,hs,hr⟩:=hrel;have hb:=H0.out.2.1.trans (H2.out.2.trans hs).below
            by_cases hlt:j<RN
            · obtain⟨q,hq⟩:∃x,rds[j]? =some x:=⟨_,List.getElem?_eq_getElem (by rw[HRN.out];exact hlt)⟩
              obtain⟨cs,hsp,u,rfl,hu⟩:=HRAT.out j q hq;obtain⟨br,orr,rfl,hc⟩:=hsp.below hb;have hqd:=HDR.out q (List.mem_of_getElem? hq);have c0:=hc 0 _ rfl;rw[Nat.add_zero]at c0;have c1:=hc 1 _ rfl;rw[redirs_step hq]at hr;have hl:=congrArg List.length hr;simp only[List.length_append,List.length_singleton]at hl;have HL1:=HL.out;obtain⟨up,uc,rfl, -, -⟩:=hu.is;obtain⟨n1,hn1⟩:∃n,q.2.length=n:=⟨_,rfl⟩;have HC:=yH (fun W h1 h2=>wredir_any (w:=W) (b:=b) (nv:= .slice (some ⟨bk,o,none⟩) NL nc) (l:=m++ [32]) hu hqd h1 h2 (by simp;omega));have HQ:=yH (wput_at w0.heap.size b (.slice (some ⟨bk,o,none⟩) NL nc) m [[32]] (by simp;omega) (by simp));have HQ:=yH (show ∀(W:World) (n:Nat),n=W.heap.size→Wr W w0.heap.size b (.slice (some ⟨bk,o,none⟩) NL nc) m→w0.heap.size≤W.heap.size→Calls Tryz.prog 74 #[.pointer (some ⟨b,0,none⟩),.slice (some ⟨n,0,none⟩) 1 1] (W.alloc (.cells #[.string ⟨#[32]⟩] 9)) fun e w'=>e= .returned (.tuple #[])∧Wr w' w0.heap.size b (.slice (some ⟨bk,o,none⟩) NL nc) (m++ [32])∧Ws w0.heap.size b W w' from HQ.out);have HRR:=yH (show((m++ [32])++redirOne q)++redirsS (rds.drop (j+1))=R from by rw[←hr];simp only[List.append_assoc]);obtain⟨NM,hNM⟩:∃NM,T q.1=NM:=⟨_,rfl⟩;have HC:=yH (show ∀W,Below w0.heap.size w0 W→Wr W w0.heap.size b (.slice (some ⟨bk,o,none⟩) NL nc) (m++ [32])→Calls Tryz.prog 77 #[.pointer (some ⟨b,0,none⟩),.agg #[.string NM,.slice up n1 uc]] W fun e w'=>e= .returned (.tuple #[])∧Wr w' w0.heap.size b (.slice (some ⟨bk,o,none⟩) NL nc) ((m++ [32])++redirOne q)∧Ws w0.heap.size b W w' from by rw[←hNM,←hn1];exact HC.out);have d0:wr.cell? ⟨br,orr+j*2,none⟩=some (.string NM):=(by rw[←hNM];exact c0);have d1:wr.cell? ⟨br,orr+j*2+1,none⟩=some (.slice up n1 uc):=(by rw[←hn1];exact c1);have hX:wr.heap.size≠b:=(by have:=HX2.out;have:=hs.below.size;omega);have HS:=yH (And.intro hs (And.intro hw (Nat.le_trans HB2.out hs.below.size)));have HJ:=yH hlt;have hj0:(j:Int)<(RN:Int):=(by omega);obtain⟨rd,hrd⟩:∃rd,redirOne q=rd:=⟨_,rfl⟩;rw[hrd]at HC HRR;clear c0 c1 hc hr hl hj hlt hq hu hn1 hqd HL1 hs hw hb hNM hrd hsp
              go_wp2_with (go_at_call 74;refine(HQ.out _ _ (by simp) (HS.out.2.1.alloc _) (by simp;have:=HS.out.2.2;omega)).mono ?_;rintro e w5 ⟨rfl,hw2,hs2⟩;obtain⟨e0,e1⟩:=two_cells (cells_kept (heap_alloc_new wr _) hs2 hX (by decide));have H5:=yH (And.intro hw2 (((HS.out.1).alloc HB2.out _).trans hs2));clear hw2 hs2)
              go_wp2_with (go_at_call 77;refine(HC.out _ (H0.out.2.1.trans (H2.out.2.trans H5.out.2).below) H5.out.1).mono ?_;rintro e w6 ⟨rfl,hw3,hs3⟩;have H6:=yH (And.intro hw3 (H5.out.2.trans hs3));clear hw3 hs3)
              refine⟨⟨_,_,_,_,_,_,_,_,_,_,_,_,⟨j+1,_,by simp,HJ.out,H6.out.1,H6.out.2,HRR.out⟩,rfl⟩,by have:=HJ.out;simp[intOf];omega⟩
            · obtain rfl:RN=j:=by omega
              have hd:rds.drop RN= []:=List.drop_of_length_le (by rw[HRN.out];exact Nat.le_refl _);rw[hd,show redirsS []= []from rfl,List.append_nil]at hr;subst hr;have hj0:¬(RN:Int)<(RN:Int):=(by omega);have HE:=yH (And.intro hw (H2.out.2.trans hs));clear hd hj hlt hb hw hs;go_wp2_with fail
              go_end0
              exact⟨rfl,HE.out⟩
theorem wnode_any {w0:World} {b:Nat} {nv:Value} {ns:List Nd} (hF:Frames w0) (hv:NsAt w0 nv ns):∀f,ONode w0 b nv ns f
  |0=>fun _ _ _ h=>h.elim
  |f+1=>wnode_next hF hv (wnode_any hF hv f)
end Go.Proofs.YtcpmjkefbjbhpaaGreatDoor
