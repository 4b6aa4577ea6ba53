/-
  Proved: contracts of functions, plain facts. Conditions: as each says.
-/
import Derived.Test.YtakceggnadagmaaGreatDoorPq22
import Derived.Test.YtakceggnadagmaaGreatDoorPq03
import Derived.Test.YtakceggnadagmaaGreatDoorPq19
import Derived.LoopTactic
namespace Go.Proofs.YtakceggnadagmaaGreatDoor
open Go Go.RowKit GlyphMath LexMath TreeMath ShowMath
theorem et {a l:List UInt8} (h:a=l):((T a).toList==l)=true:=by rw[eq_text,h];simp
theorem ef {a l:List UInt8} (h:a≠l):((T a).toList==l)=false:=by rw[eq_text];simpa using h
theorem len_one {α:Type} {l:List α} (h:l.length=1):∃a,l= [a]:=by
  match l,h with
  | [a],_=>exact⟨a,rfl⟩
theorem len_two {α:Type} {l:List α} (h:l.length=2):∃a b,l= [a,b]:=by
  match l,h with
  | [a,b],_=>exact⟨a,b,rfl⟩
theorem len_three {α:Type} {l:List α} (h:l.length=3):∃a b c,l= [a,b,c]:=by
  match l,h with
  | [a,b,c],_=>exact⟨a,b,c,rfl⟩
structure NoOp (n:Nd):Prop where
  cmd:n.op≠ [99,109,100]
  seq:n.op≠ [115,101,113]
  and:n.op≠ [97,110,100]
  or:n.op≠ [111,114]
  pipe:n.op≠ [112,105,112,101]
  not:n.op≠ [110,111,116]
  fun_:n.op≠ [102,117,110]
theorem rcomp_any {ns:List Nd} {np:Option Addr} {nc:Nat} {rt:Int} {f:Nat} (hN:NodeDo ns np nc rt f) (n:Nd) (kp wp pp ap rp:Option Addr) (kc wc pc ac rc:Nat) (w:World) (hns:NsAt w (.slice np ns.length nc) ns) (hk:KidsAt w (.slice kp n.kids.length kc) n.kids)
    (hw:WsAt w (.slice wp n.words.length wc) n.words) (hp:PatsAt w (.slice pp n.pats.length pc) n.pats) (hno:NoOp n) (hhas:hasS n=true) (hd:depN n=true) (hok:okK ns f n.kids=true) (hL:(compS n (kidsS ns f n.kids)).length≤BigL):
    Calls Tryz.prog 37 #[.agg #[.slice np ns.length nc,.int .i64 rt],.agg #[.string (T n.op),.string (T n.name),.slice kp n.kids.length kc,.slice wp n.words.length wc,.slice pp n.pats.length pc,.slice ap n.assigns.length ac,.slice rp n.redirs.length rc]] w
      fun e w'=>e= .returned (.string (T (compS n (kidsS ns f n.kids))))∧Below w.heap.size w w':=by
  unfold hasS at hhas;rw[if_neg hno.cmd]at hhas;unfold depN at hd;simp only[Bool.and_eq_true]at hd;obtain⟨d1,d2, -, -⟩:=hd;unfold compS at hL ⊢
  by_cases h1:n.op= [105,102]
  · rw[if_pos h1]at hhas hL ⊢
    simp only[Bool.or_eq_true,beq_iff_eq]at hhas
    rcases hhas with h|h
    · obtain⟨a,b,e⟩:=len_two h
      rw[e]at hk hok hL ⊢;exact rcomp_if2 hN _ _ kp wp pp ap rp _ _ _ kc wc pc ac rc _ w a b hk hok hns (et h1) hL
    · obtain⟨a,b,c,e⟩:=len_three h
      rw[e]at hk hok hL ⊢;exact rcomp_if3 hN _ _ kp wp pp ap rp _ _ _ kc wc pc ac rc _ w a b c hk hok hns (et h1) hL
  rw[if_neg h1]at hhas hL ⊢
  by_cases h2:n.op= [119,104,105,108,101]
  · rw[if_pos (.inl h2)]at hhas hL ⊢
    obtain⟨a,b,e⟩:=len_two (by simpa using hhas);rw[e]at hk hok hL ⊢;exact rcomp_while hN _ _ kp wp pp ap rp _ _ _ kc wc pc ac rc _ w a b hk hok n.op rfl hns (ef h1) (et h2) hL
  by_cases h3:n.op= [117,110,116,105,108]
  · rw[if_pos (.inr h3)]at hhas hL ⊢
    obtain⟨a,b,e⟩:=len_two (by simpa using hhas);rw[e]at hk hok hL ⊢;exact rcomp_until hN _ _ kp wp pp ap rp _ _ _ kc wc pc ac rc _ w a b hk hok n.op rfl hns (ef h1) (ef h2) (et h3) hL
  rw[if_neg (fun h=>h.elim h2 h3)]at hhas hL ⊢
  by_cases h4:n.op= [102,111,114]
  · rw[if_pos h4]at hhas hL ⊢
    obtain⟨a,e⟩:=len_one (by simpa using hhas);rw[e]at hk hok hL ⊢;unfold forS at hL ⊢;obtain⟨wl,hwl⟩:∃wl,n.words=wl:=⟨_,rfl⟩;rw[hwl]at hw d1 hL ⊢
    cases wl with
    |nil=>
      exact rcomp_for0 hN _ _ kp wp pp ap rp _ _ _ kc wc pc ac rc w a hk hok n.name rfl hns (ef h1) (ef h2) (ef h3) (et h4) hL
    |cons y r=>
      exact rcomp_forn hN _ _ kp wp pp ap rp _ _ _ kc wc pc ac rc w a hk hok n.name rfl (y::r) hw d1 (by simp) hns (ef h1) (ef h2) (ef h3) (et h4) hL
  rw[if_neg h4]at hhas hL ⊢
  by_cases h5:n.op= [99,97,115,101]
  · rw[if_pos h5]at hhas hL ⊢
    simp only[Bool.and_eq_true,beq_iff_eq]at hhas;exact rcomp_case hN _ _ kp wp pp ap rp _ _ _ kc wc pc ac rc w n.kids n.words n.pats rfl hk hw hp hok d1 d2 hhas.1 hhas.2 hns (ef h1) (ef h2) (ef h3) (ef h4) (et h5) hL
  rw[if_neg h5]at hhas hL ⊢;have hne:n.kids≠ []:=(by simpa using hhas)
  by_cases h6:n.op= [103,114,111,117,112]
  · rw[if_pos h6]at hL ⊢
    exact rcomp_group hN _ _ kp wp pp ap rp _ _ _ kc wc pc ac rc _ w n.kids hk hok hne hns (ef h1) (ef h2) (ef h3) (ef h4) (ef h5) (et h6) hL
  · rw[if_neg h6]at hL ⊢
    exact rcomp_sub hN _ _ kp wp pp ap rp _ _ _ kc wc pc ac rc _ w n.kids hk hok hne hns (ef h1) (ef h2) (ef h3) (ef h4) (ef h5) (ef h6) hL
set_option maxHeartbeats 8000000 in
set_option maxRecDepth 100000 in
theorem rnode_rest {ns:List Nd} {np:Option Addr} {nc:Nat} {rt:Int} {f:Nat} (hN:NodeDo ns np nc rt f) (n:Nd) (i:Nat) (w:World) (hns:NsAt w (.slice np ns.length nc) ns) (hi:ns[i]? =some n) (hno:NoOp n) (hh:hasS n=true) (hd:depN n=true) (hok:okK ns f n.kids=true) (hL:(compS n (kidsS ns f n.kids)++redirsS n.redirs).length≤BigL):
    Calls Tryz.prog 17 #[.agg #[.slice np ns.length nc,.int .i64 rt],.int .i64 (i:Int)] w fun e w'=>e= .returned (.string (T (compS n (kidsS ns f n.kids)++redirsS n.redirs)))∧Below w.heap.size w w':=by
  have hfew:=hns.few;obtain⟨⟨p,c,hv,hx⟩, -⟩:=id hns;simp only[Value.slice.injEq,true_and]at hv;obtain⟨rfl,rfl⟩:=hv;obtain⟨cs,⟨nb,no,rfl,hs⟩,⟨kv,wv,pv,av,rv,rfl,hk,hw,hp,ha,hr⟩⟩:=hx i n hi;obtain⟨kp,kc,rfl⟩:=KidsAt.is hk;obtain⟨wp,wc,rfl⟩:=WsAt.is hw;obtain⟨pp,pc,rfl⟩:=PatsAt.is hp;obtain⟨ap,ac,rfl⟩:=AsAt.is ha;obtain⟨rp,rc,rfl⟩:=AsAt.is hr;have hlt:i<ns.length:=(List.getElem?_eq_some_iff.1 hi).1;obtain⟨O1,hO1⟩:∃O1,Obj.cells #[.slice (some ⟨nb,no,none⟩) ns.length nc,.int .i64 rt] 24=O1:=⟨_,rfl⟩;have c0:=cell_new (hs 0 _ rfl) O1;have c1:=cell_new (hs 1 _ rfl) O1;have c2:=cell_new (hs 2 _ rfl) O1;have c3:=cell_new (hs 3 _ rfl) O1;have c4:=cell_new (hs 4 _ rfl) O1;have c5:=cell_new (hs 5 _ rfl) O1;have c6:=cell_new (hs 6 _ rfl) O1;rw[Nat.add_zero]at c0;unfold txt at c0 c1;subst hO1;have hl:=hL;rw[List.length_append]at hl;have HC:=fun (V:World) (hb:Below w.heap.size w V)=>rcomp_any hN n kp wp pp ap rp kc wc pc ac rc V (hns.below hb) (hk.below hb) (hw.below hb) (hp.below hb) hno hh hd hok (by omega);have d4:n.redirs.all (fun a=>depS 22 a.2)=true:=(by unfold depN at hd;simp only[Bool.and_eq_true]at hd;exact hd.2.2.2);have HX:=fun (V:World) (hb:Below w.heap.size w V)=>rredirs_text (T n.op) (T n.name) kp wp pp ap rp n.kids.length n.words.length n.pats.length n.assigns.length kc wc pc ac rc n.redirs V (hr.below hb) d4 (by omega);have z0:(T (compS n (kidsS ns f n.kids))).size≤1152921504606846976:=(by rw[T_size];unfold BigL at hl;omega);have z1:(T (redirsS n.redirs)).size≤1152921504606846976:=(by rw[T_size];unfold BigL at hl;omega);have HQ0:T (compS n (kidsS ns f n.kids))++T (redirsS n.redirs)=T (compS n (kidsS ns f n.kids)++redirsS n.redirs):=(T_append _ _).symm;obtain⟨R,hRR⟩:∃R,compS n (kidsS ns f n.kids)++redirsS n.redirs=R:=⟨_,rfl⟩;rw[hRR]at HQ0 ⊢;obtain⟨r0,hr0⟩:∃r,T (compS n (kidsS ns f n.kids))=r:=⟨_,rfl⟩;obtain⟨r1,hr1⟩:∃r,T (redirsS n.redirs)=r:=⟨_,rfl⟩;rw[hr0]at HC z0 HQ0;rw[hr1]at HX z1 HQ0;obtain⟨NN,hNN⟩:∃N,ns.length=N:=⟨_,rfl⟩;obtain⟨KL,hKL⟩:∃N,n.kids.length=N:=⟨_,rfl⟩;obtain⟨WL,hWL⟩:∃N,n.words.length=N:=⟨_,rfl⟩;obtain⟨PL,hPL⟩:∃N,n.pats.length=N:=⟨_,rfl⟩;obtain⟨AL,hAL⟩:∃N,n.assigns.length=N:=⟨_,rfl⟩;obtain⟨RL,hRL⟩:∃N,n.redirs.length=N:=⟨_,rfl⟩;obtain⟨o,hoo⟩:∃o,T n.op=o:=⟨_,rfl⟩;obtain⟨x,hxx⟩:∃x,T n.name=x:=⟨_,rfl⟩;replace c0:=c0.trans (show some (Value.string _)=some (Value.string o)from by rw[←hoo]);replace c1:=c1.trans (show some (Value.string _)=some (Value.string x)from by rw[←hxx]);rw[hKL]at c2;rw[hWL]at c3;rw[hPL]at c4;rw[hAL]at c5;rw[hRL]at c6;rw[hNN]at c0 c1 c2 c3 c4 c5 c6 hlt hfew ⊢;have hi0:(i:Int)<(NN:Int):=(by omega);have hN0:(NN:Int)≤2^63-1:=(by unfold maxLen at hfew;omega);rw[hNN,hKL,hPL,hWL,hAL,hRL,hoo,hxx]at HC;rw[hKL,hPL,hWL,hAL,hRL,hoo,hxx]at HX;have HCC:=yH HC;have HXX:=yH HX;have HQ:=yH HQ0;have e_cmd:(o.toList== [99,109,100])=false:=(by rw[←hoo];exact ef hno.cmd);have e_seq:(o.toList== [115,101,113])=false:=(by rw[←hoo];exact ef hno.seq);have e_and:(o.toList== [97,110,100])=false:=(by rw[←hoo];exact ef hno.and);have e_or:(o.toList== [111,114])=false:=(by rw[←hoo];exact ef hno.or);have e_pipe:(o.toList== [112,105,112,101])=false:=(by rw[←hoo];exact ef hno.pipe);have e_not:(o.toList== [110,111,116])=false:=(by rw[←hoo];exact ef hno.not);have e_fun:(o.toList== [102,117,110])=false:=(by rw[←hoo];exact ef hno.fun_);have s1:¬9223372036854775807<r0.size+r1.size:=(by omega);clear hs hx hk hw hp ha hr hi hfew hL hns hNN hKL hWL hPL hAL hRL hoo hxx hN hRR HC HX hno hh hd hok hl d4 z0 z1 hr0 hr1 HQ0;go_enter Tryz.func17,Tryz.ntmps17;go_wp2_with fail;obtain⟨w1,hw1⟩:∃w1,(w.alloc (.cells #[.slice (some ⟨nb,no,none⟩) NN nc,.int .i64 rt] 24)).alloc (.cells #[.string o,.string x,.slice kp KL kc,.slice wp WL wc,.slice pp PL pc,.slice ap AL ac,.slice rp RL rc] 44)=w1:=⟨_,rfl⟩;have HB1:=yH (show Below w.heap.size w w1 by rw[←hw1];exact below_pair _ _ _);have HNC:=yH (fun W=>two_boxes w (some ⟨nb,no,none⟩) NN nc rt o x (.slice kp KL kc) (.slice wp WL wc) (.slice pp PL pc) (.slice ap AL ac) (.slice rp RL rc) 24 44 W w1 hw1.symm);rw[hw1];clear hw1 c0 c1 c2 c3 c4 c5 c6;obtain⟨⟨p0,p1⟩,n0,n1,n2,n3,n4,n5,n6⟩:=HNC.out w1 (Below.refl _ _);have HDw1:=yH (show w1.drew.cell? ⟨w.heap.size,0,none⟩=some (.slice (some ⟨nb,no,none⟩) NN nc)∧w1.drew.cell? ⟨w.heap.size,1,none⟩=some (.int .i64 rt)∧w1.drew.cell? ⟨w.heap.size+1,0,none⟩=some (.string o)∧w1.drew.cell? ⟨w.heap.size+1,1,none⟩=some (.string x)∧w1.drew.cell? ⟨w.heap.size+1,2,none⟩=some (.slice kp KL kc)∧w1.drew.cell? ⟨w.heap.size+1,3,none⟩=some (.slice wp WL wc)∧w1.drew.cell? ⟨w.heap.size+1,4,none⟩=some (.slice pp PL pc)∧w1.drew.cell? ⟨w.heap.size+1,5,none⟩=some (.slice ap AL ac)∧w1.drew.cell? ⟨w.heap.size+1,6,none⟩=some (.slice rp RL rc)from ⟨p0,p1,n0,n1,n2,n3,n4,n5,n6⟩);refine wp_region_held_drew (S:=fun W=>W.cell? ⟨w.heap.size,0,none⟩=some (.slice (some ⟨nb,no,none⟩) NN nc)∧W.cell? ⟨w.heap.size,1,none⟩=some (.int .i64 rt)∧W.cell? ⟨w.heap.size+1,0,none⟩=some (.string o)∧W.cell? ⟨w.heap.size+1,1,none⟩=some (.string x)∧W.cell? ⟨w.heap.size+1,2,none⟩=some (.slice kp KL kc)∧W.cell? ⟨w.heap.size+1,3,none⟩=some (.slice wp WL wc)∧W.cell? ⟨w.heap.size+1,4,none⟩=some (.slice pp PL pc)∧W.cell? ⟨w.heap.size+1,5,none⟩=some (.slice ap AL ac)∧W.cell? ⟨w.heap.size+1,6,none⟩=some (.slice rp RL rc)) (by kernel_rfl) ?_ (fun hHeld=> ?_)
  · exact HDw1.out
  refine tkW 0 58 rfl rfl ?_ ?_ ?_;rotate_left
  · intro _ _;go_simp<;>(with_reducible rfl)
  simp only[pS];refine tkW 1 59 rfl rfl ?_ ?_ ?_;rotate_left
  · intro _ _;go_simp<;>(with_reducible rfl)
  simp only[pS];refine tkW 3 61 rfl rfl ?_ ?_ ?_;rotate_left
  · intro _ _;go_simp<;>(with_reducible rfl)
  simp only[pS];refine cW 2 rfl (fun K hK=> ?_);go_simp
  go_wp2_with (go_at_call 37;refine(HCC.out (w1.drewN 1) ⟨HB1.out.os,HB1.out.tape,HB1.out.output,HB1.out.size,HB1.out.block⟩).mono ?_;rintro e w2 ⟨rfl,hbw2⟩;have hbw2:Below w1.heap.size w1 w2:=⟨hbw2.os,hbw2.tape,hbw2.output,hbw2.size,hbw2.block⟩;have Sw2:=yH (show w2.cell? ⟨w.heap.size,0,none⟩=some (.slice (some ⟨nb,no,none⟩) NN nc)∧w2.cell? ⟨w.heap.size,1,none⟩=some (.int .i64 rt)∧w2.cell? ⟨w.heap.size+1,0,none⟩=some (.string o)∧w2.cell? ⟨w.heap.size+1,1,none⟩=some (.string x)∧w2.cell? ⟨w.heap.size+1,2,none⟩=some (.slice kp KL kc)∧w2.cell? ⟨w.heap.size+1,3,none⟩=some (.slice wp WL wc)∧w2.cell? ⟨w.heap.size+1,4,none⟩=some (.slice pp PL pc)∧w2.cell? ⟨w.heap.size+1,5,none⟩=some (.slice ap AL ac)∧w2.cell? ⟨w.heap.size+1,6,none⟩=some (.slice rp RL rc)from ⟨cell_below p0 hbw2,cell_below p1 hbw2,cell_below n0 hbw2,cell_below n1 hbw2,cell_below n2 hbw2,cell_below n3 hbw2,cell_below n4 hbw2,cell_below n5 hbw2,cell_below n6 hbw2⟩);have HBw2:=yH hbw2;clear hbw2)
  refine hK.out _ _ ?_ (fun hHeld=> ?_)
  · exact Sw2.out
  clear hK K;refine cW 4 rfl (fun K hK=> ?_);go_simp
  go_wp2_with (go_at_call 38;refine(HXX.out w2 (HB1.out.trans (HBw2.out.mono HB1.out.size))).mono ?_;rintro e w3 ⟨rfl,hbw3⟩;have hbw3:Below w2.heap.size w2 w3:=⟨hbw3.os,hbw3.tape,hbw3.output,hbw3.size,hbw3.block⟩;have Sw3:=yH (show w3.cell? ⟨w.heap.size,0,none⟩=some (.slice (some ⟨nb,no,none⟩) NN nc)∧w3.cell? ⟨w.heap.size,1,none⟩=some (.int .i64 rt)∧w3.cell? ⟨w.heap.size+1,0,none⟩=some (.string o)∧w3.cell? ⟨w.heap.size+1,1,none⟩=some (.string x)∧w3.cell? ⟨w.heap.size+1,2,none⟩=some (.slice kp KL kc)∧w3.cell? ⟨w.heap.size+1,3,none⟩=some (.slice wp WL wc)∧w3.cell? ⟨w.heap.size+1,4,none⟩=some (.slice pp PL pc)∧w3.cell? ⟨w.heap.size+1,5,none⟩=some (.slice ap AL ac)∧w3.cell? ⟨w.heap.size+1,6,none⟩=some (.slice rp RL rc)from ⟨cell_below Sw2.out.1 hbw3,cell_below Sw2.out.2.1 hbw3,cell_below Sw2.out.2.2.1 hbw3,cell_below Sw2.out.2.2.2.1 hbw3,cell_below Sw2.out.2.2.2.2.1 hbw3,cell_below Sw2.out.2.2.2.2.2.1 hbw3,cell_below Sw2.out.2.2.2.2.2.2.1 hbw3,cell_below Sw2.out.2.2.2.2.2.2.2.1 hbw3,cell_below Sw2.out.2.2.2.2.2.2.2.2 hbw3⟩);have HBw3:=yH (HBw2.out.trans (hbw3.mono HBw2.out.size));clear hbw3)
  refine hK.out _ _ ?_ (fun hHeld=> ?_)
  · exact Sw3.out
  clear hK K;refine tkW 5 63 rfl rfl ?_ ?_ ?_;rotate_left
  · intro _ _;go_simp<;>(with_reducible rfl)
  simp only[pS];refine tkW 6 4 rfl rfl ?_ ?_ ?_;rotate_left
  · intro _ _;go_simp<;>(with_reducible rfl)
  simp only[pS];refine wpAnyH_done (by kernel_rfl) ?_ _;go_wp2_with fail;go_ret;exact⟨by rw[←HQ.out];rfl,HB1.out.trans (HBw3.out.mono HB1.out.size)⟩
theorem rnode_next {ns:List Nd} {np:Option Addr} {nc:Nat} {rt:Int} {f:Nat} (hN:NodeDo ns np nc rt f):NodeDo ns np nc rt (f+1):=by
  intro i W hns hok hL;rw[okS]at hok
  cases hi:ns[i]? with
  |none=>rw[hi]at hok;cases hok
  |some n=>
    rw[hi]at hok;simp only[Bool.and_eq_true]at hok;obtain⟨hh,hd,hk⟩:=hok;have hk:okK ns f n.kids=true:=(by unfold okK;simpa only[List.all_eq_true,Bool.and_eq_true,decide_eq_true_eq]using hk);have e:nodeS ns (f+1) i=nodeT n (kidsS ns f n.kids):=(by rw[nodeS,hi];rfl);rw[e]at hL ⊢;unfold nodeT at hL ⊢
    by_cases h1:n.op= [99,109,100]
    · rw[if_pos h1]at hL ⊢
      exact rnode_cmd hN n i W hns hi h1 hd (by unfold hasS at hh;rw[if_pos h1]at hh;simpa only[Bool.not_eq_true']using hh) hL
    rw[if_neg h1]at hL ⊢
    have hne:∀h7:n.op≠ [105,102]∧(n.op≠ [119,104,105,108,101]∧n.op≠ [117,110,116,105,108])∧n.op≠ [102,111,114]∧n.op≠ [99,97,115,101],n.kids≠ []:=fun ⟨a,b,c,d⟩=>by
      unfold hasS at hh;rw[if_neg h1,if_neg a,if_neg (fun h=>h.elim b.1 b.2),if_neg c,if_neg d]at hh
      simpa using hh
    by_cases h2:n.op= [115,101,113]
    · rw[if_pos h2]at hL ⊢
      exact rnode_seq hN n i W hns hi h2 hk (hne (by rw[h2];decide)) hL
    rw[if_neg h2]at hL ⊢
    by_cases h3:n.op= [97,110,100]
    · rw[if_pos h3]at hL ⊢
      exact rnode_and hN n i W hns hi h3 hk (hne (by rw[h3];decide)) hL
    rw[if_neg h3]at hL ⊢
    by_cases h4:n.op= [111,114]
    · rw[if_pos h4]at hL ⊢
      exact rnode_or hN n i W hns hi h4 hk (hne (by rw[h4];decide)) hL
    rw[if_neg h4]at hL ⊢
    by_cases h5:n.op= [112,105,112,101]
    · rw[if_pos h5]at hL ⊢
      exact rnode_pipe hN n i W hns hi h5 hk (hne (by rw[h5];decide)) hL
    rw[if_neg h5]at hL ⊢
    by_cases h6:n.op= [110,111,116]
    · rw[if_pos h6]at hL ⊢
      exact rnode_not hN n i W hns hi h6 hk (hne (by rw[h6];decide)) hL
    rw[if_neg h6]at hL ⊢
    by_cases h7:n.op= [102,117,110]
    · rw[if_pos h7]at hL ⊢
      exact rnode_fun hN n i W hns hi h7 hk (hne (by rw[h7];decide)) hL
    rw[if_neg h7]at hL ⊢;exact rnode_rest hN n i W hns hi ⟨h1,h2,h3,h4,h5,h6,h7⟩ hh hd hk hL
theorem rnode_any (ns:List Nd) (np:Option Addr) (nc:Nat) (rt:Int):∀f,NodeDo ns np nc rt f
  |0=>fun i W _ hok _=>by cases hok
  |f+1=>rnode_next (rnode_any ns np nc rt f)
set_option maxRecDepth 100000 in
theorem rtext_any (ns:List Nd) (v:Value) (rt:Int) (w:World) (hns:NsAt w v ns) (hok:okS ns ns.length 0=true) (hL:(textS ns).length≤BigL):
    Calls Tryz.prog 10 #[.agg #[v,.int .i64 rt]] w fun e w'=>e= .returned (.string (T (textS ns)))∧Below w.heap.size w w':=by
  obtain⟨np,nc,rfl⟩:=NsAt.is hns;have HB:=yH (fun o=>below_one w o);have HC:=yH (fun o=>rnode_any ns np nc rt ns.length 0 (w.alloc o) (hns.below (HB.out o)) hok hL);obtain⟨R,hR⟩:∃R,T (textS ns)=R:=⟨_,rfl⟩
  have HC2:=yH (show ∀o,Calls Tryz.prog 17 #[.agg #[.slice np ns.length nc,.int .i64 rt],.int .i64 0] (w.alloc o) fun e w'=>e= .returned (.string R)∧Below (w.alloc o).heap.size (w.alloc o) w' from fun o=>by
    have:=HC.out o;rw[show nodeS ns ns.length 0=textS ns from rfl,hR]at this
    exact this)
  rw[hR];obtain⟨NN,hNN⟩:∃N,ns.length=N:=⟨_,rfl⟩;have HC3:=yH (hNN▸HC2.out);rw[hNN];clear HC HC2 hR hns hok hL hNN;go_enter Tryz.func10,Tryz.ntmps10
  go_wp2_with (go_at_call 17;refine(HC3.out _).mono ?_;rintro e w2 ⟨rfl,hb2⟩;have HB2:=yH hb2;clear hb2)
  go_ret;exact⟨rfl,(HB.out _).trans (HB2.out.mono (HB.out _).size)⟩
end Go.Proofs.YtakceggnadagmaaGreatDoor
namespace Go.Proofs.YtakceggnadagmaaGreatDoor
open Go Go.RowKit GlyphMath LexMath TreeMath
theorem NsAt.node {w:World} {p:Option Addr} {n0 c:Nat} {ns:List Nd} (h:NsAt w (.slice p n0 c) ns) {i:Nat} {n:Nd} (hn:ns[i]? =some n):∃b o,p=some ⟨b,o,none⟩∧∃kp wp pp ap rp kc wc pc ac rc,
    KidsAt w (.slice kp n.kids.length kc) n.kids∧WsAt w (.slice wp n.words.length wc) n.words∧PatsAt w (.slice pp n.pats.length pc) n.pats∧AsAt w (.slice ap n.assigns.length ac) n.assigns∧AsAt w (.slice rp n.redirs.length rc) n.redirs∧
    w.cell? ⟨b,o+i*7,none⟩=some (.string (T n.op))∧w.cell? ⟨b,o+i*7+1,none⟩=some (.string (T n.name))∧w.cell? ⟨b,o+i*7+2,none⟩=some (.slice kp n.kids.length kc)∧w.cell? ⟨b,o+i*7+3,none⟩=some (.slice wp n.words.length wc)∧w.cell? ⟨b,o+i*7+4,none⟩=some (.slice pp n.pats.length pc)∧w.cell? ⟨b,o+i*7+5,none⟩=some (.slice ap n.assigns.length ac)∧w.cell? ⟨b,o+i*7+6,none⟩=some (.slice rp n.redirs.length rc):=by
  obtain⟨b,o,rfl⟩:=SlAt.ptr h hn;obtain⟨cs,hP,hc⟩:=SlAt.cell h rfl hn;obtain⟨kv,wv,pv,av,rv,rfl,h1,h2,h3,h4,h5⟩:=hP.is;obtain⟨kp,kc,rfl⟩:=KidsAt.is h1;obtain⟨wp,wc,rfl⟩:=WsAt.is h2;obtain⟨pp,pc,rfl⟩:=PatsAt.is h3;obtain⟨ap,ac,rfl⟩:=AsAt.is h4;obtain⟨rp,rc,rfl⟩:=AsAt.is h5;exact⟨b,o,rfl,kp,wp,pp,ap,rp,kc,wc,pc,ac,rc,h1,h2,h3,h4,h5,(by have:=hc 0 _ rfl;rwa [Nat.add_zero]at this),hc 1 _ rfl,hc 2 _ rfl,hc 3 _ rfl,hc 4 _ rfl,hc 5 _ rfl,hc 6 _ rfl⟩
theorem heap_alloc_two (w:World) (o p:Obj):((w.alloc o).alloc p).heap[w.heap.size]? =some o:=(Below.heap_alloc _ p _ (by rw[World.size_alloc];omega)).trans (heap_alloc_new w o)
theorem heap_alloc_last (w:World) (o p:Obj):((w.alloc o).alloc p).heap[w.heap.size+1]? =some p:=by
  have:=heap_alloc_new (w.alloc o) p
  rwa [World.size_alloc]at this
set_option maxHeartbeats 1000000 in
theorem rreserved_any (l:List UInt8) (w:World):
    Calls Tryz.prog 33 #[.string (T l)] w fun e w'=>e= .returned (.bool (reservedT l))∧w=w':=by
  obtain⟨o,ho⟩:∃o,T l=o:=⟨_,rfl⟩;have hl:o.toList=l:=(by rw[←ho,Lib.toList_data]);rw[ho,←hl];clear ho hl;obtain⟨R,hR⟩:∃R,reservedT o.toList=R:=⟨_,rfl⟩;have HR:=yH hR;rw[hR];clear hR;go_enter Tryz.func33,Tryz.ntmps33;go_wp2_with fail
  all_goals
    go_ret;refine⟨ret_bool ?_,rfl⟩;rw[←HR.out]
    first
      |(simp only[reservedT,reservedL,List.contains_cons,List.contains_nil,Bool.or_false,Bool.true_or,Bool.false_or, *];done)
      |(simp_all;done)
theorem plain_match (w0:List Pt):(match plainT w0 with|none=>true|some t=> !reservedT t)=(!(plainT w0).isSome|| !reservedT ((plainT w0).getD [])):=by
  cases plainT w0 with
  |none=>rfl
  |some t=>rfl
set_option maxHeartbeats 2000000 in
set_option maxRecDepth 100000 in
theorem rcmd_any (n:Nd) (kp wp pp ap rp:Option Addr) (kc wc pc ac rc:Nat) (w:World) (hw:WsAt w (.slice wp n.words.length wc) n.words) (ha:AsAt w (.slice ap n.assigns.length ac) n.assigns) (hs:NSmall n) (hl:n.assigns.length≤1048576∧n.redirs.length≤1048576) (hT:Tabs w):
    Calls Tryz.prog 28 #[NV n kp wp pp ap rp kc wc pc ac rc] w fun e w'=>e= .returned (.bool (rcmdT n))∧Below w.heap.size w w':=by
  obtain⟨op,name,kids,words,pats,l,redirs⟩:=n;have HSM:=yH hs;have HT:=yH hT;have HWV:=yH hw;obtain⟨R,hR⟩:∃R,rcmdT ⟨op,name,kids,words,pats,l,redirs⟩=R:=⟨_,rfl⟩;rw[hR];obtain⟨X,hX⟩:∃X,(commandT ⟨op,name,kids,words,pats,l,redirs⟩&&words.all bareW)=X:=⟨_,rfl⟩;have HR:=yH (show(l.all assignT&&X)=R from by rw[←hX];exact hR);have HX:=yH hX;have hEA:=pos_len l;have hED:=pos_len redirs;show Calls _ _ #[.agg #[.string (T op),.string (T name),.slice kp kids.length kc,.slice wp words.length wc,.slice pp pats.length pc,.slice ap l.length ac,.slice rp redirs.length rc]] _ _;have hl1:l.length≤1048576:=hl.1;have hl2:redirs.length≤1048576:=hl.2;have HV:=yH (show AsAt w (.slice ap l.length ac) l from ha)
  generalize T op=o
  generalize T name=x
  generalize kids.length=KL
  generalize pats.length=PL
  obtain⟨AL,hAL⟩:∃N,l.length=N:=⟨_,rfl⟩;obtain⟨RL,hRL⟩:∃N,redirs.length=N:=⟨_,rfl⟩;obtain⟨WL,hWL⟩:∃N,words.length=N:=⟨_,rfl⟩;have HWL:=yH hWL;have HN:=yH hAL;have HEA:=yH (show decide ((0:Int)<(AL:Int))= !l.isEmpty from by rw[←hAL];exact hEA);have HED:=yH (show decide ((0:Int)<(RL:Int))= !redirs.isEmpty from by rw[←hRL];exact hED);have HWV:=yH (show WsAt w (.slice wp WL wc) words from by rw[←hWL];exact HWV.out);rw[hAL]at hl1 HV;rw[hRL]at hl2;rw[hAL,hRL,hWL];have hN0:(AL:Int)≤1048576:=(by omega);have hR0:(RL:Int)≤1048576:=(by omega);have HA:=yH (node_all w);have HBX:=yH (fun o=>below_one w o);clear hw ha hs hl hT hR hX hEA hED hl1 hl2 hAL hRL hWL;go_enter Tryz.func28,Tryz.ntmps28;go_wp2_with fail;obtain⟨w1,hw1⟩:∃w1,w.alloc (.cells #[.string o,.string x,.slice kp KL kc,.slice wp WL wc,.slice pp PL pc,.slice ap AL ac,.slice rp RL rc] 44)=w1:=⟨_,rfl⟩;have HB1:=yH (show Below w.heap.size w w1 by rw[←hw1];exact HBX.out _);have HNC:=yH (show ∀W,Below w1.heap.size w1 W→_ from by rw[←hw1];exact HA.out o x (.slice kp KL kc) (.slice wp WL wc) (.slice pp PL pc) (.slice ap AL ac) (.slice rp RL rc) 44);rw[hw1];clear hw1
  go_loopw [3] (fun i wr=> ∃j,j≤AL∧i= .int .i64 (j:Int)∧Below w1.heap.size w1 wr∧((l.drop j).all assignT&&X)=R) (fun i _=>AL-(intOf i).toNat)
  case atStart=>exact⟨0,by omega,rfl,Below.refl _ _,HR.out⟩
  case round=>
    obtain⟨j,hj,rfl,hb,hsd⟩:=hrel;obtain⟨n0,n1,n2,n3,n4,n5,n6⟩:=HNC.out wr hb
    by_cases hlt:j<AL
    · obtain⟨y,hy⟩:∃y,l[j]? =some y:=⟨_,List.getElem?_eq_getElem (by rw[HN.out];exact hlt)⟩
      obtain⟨bb,oo,rfl⟩:=SlAt.ptr HV.out hy;obtain⟨cs,⟨u,rfl,hu⟩,hcc⟩:=SlAt.cell HV.out rfl hy;have hj0:(j:Int)<(AL:Int):=(by omega);have hym:=List.mem_of_getElem? hy;rw[drop_get hy,List.all_cons]at hsd;have HB:=yH hb;have HW0:=yH (HB1.out.trans (hb.mono HB1.out.size));have HJ:=yH hlt
      have c0:wr.cell? ⟨bb,oo+j*2,none⟩=some (.string (T y.1)):=by
        have:=cell_below (hcc 0 _ rfl) HW0.out
        rwa [show oo+j*2+0=oo+j*2 by omega]at this
      have c1:wr.cell? ⟨bb,oo+j*2+1,none⟩=some u:=cell_below (hcc 1 _ rfl) HW0.out;have HC1:=yH c1;obtain⟨up,uc,rfl, -, -⟩:=hu.is;have HN1:=yH (show Calls Tryz.prog 29 #[.string (T y.1)] wr fun e w'=>e= .returned (.bool (nameT y.1))∧Below wr.heap.size wr w' from rname_any (T y.1) wr (by have:=HSM.out.names y hym;show y.1.length≤_;omega) (HT.out.below HW0.out));have HW1:=yH (fun W (hb:Below wr.heap.size wr W)=>rword_any y.2 (.slice up y.2.length uc) W ((hu.stays HW0.out).stays hb) (HSM.out.assigns y hym) ((HT.out.below HW0.out).below hb));unfold wordV at HW1;obtain⟨ul,hul⟩:∃ul,y.2.length=ul:=⟨_,rfl⟩;obtain⟨A,hA⟩:∃P,nameT y.1=P:=⟨_,rfl⟩;obtain⟨P,hP⟩:∃P,wordT y.2=P:=⟨_,rfl⟩;have HRT:=yH (show(((A&&P)&&(l.drop (j+1)).all assignT)&&X)=R from by rw[←hP,←hA];exact hsd);rw[hP]at HW1;rw[hA]at HN1;rw[hul]at HW1 c1 HC1;obtain⟨s,hs⟩:∃s,T y.1=s:=⟨_,rfl⟩;rw[hs]at c0 HN1;clear hul hP hA hs hsd hb hlt hj hy hcc hu hym
      cases A with
      |false=>
        have HF:=yH (show false=R from HRT.out)
        go_wp2_with (go_at_call 29;refine HN1.out.mono ?_;rintro e w2 ⟨rfl,hb2⟩;have HB2:=yH hb2;clear hb2)
        go_ret;exact⟨ret_bool HF.out,HW0.out.trans (HB2.out.mono HW0.out.size)⟩
      |true=>
        cases P
        · have HF:=yH (show false=R from HRT.out)
          go_wp2_with (first
            |(go_at_call 29;refine HN1.out.mono ?_;rintro e w2 ⟨rfl,hb2⟩;have HB2:=yH hb2;obtain⟨m0,m1,m2,m3,m4,m5,m6⟩:=HNC.out w2 (HB.out.trans (hb2.mono HB.out.size));have k1:=cell_below HC1.out hb2;clear hb2)
            |(go_at_call 58;refine(HW1.out _ HB2.out).mono ?_;rintro e w3 ⟨rfl,hb3⟩;have HB3:=yH (HB2.out.trans (hb3.mono HB2.out.size));clear hb3))
          go_ret;exact⟨ret_bool HF.out,HW0.out.trans (HB3.out.mono HW0.out.size)⟩
        · have HF:=yH (show((l.drop (j+1)).all assignT&&X)=R from HRT.out)
          go_wp2_with (first
            |(go_at_call 29;refine HN1.out.mono ?_;rintro e w2 ⟨rfl,hb2⟩;have HB2:=yH hb2;obtain⟨m0,m1,m2,m3,m4,m5,m6⟩:=HNC.out w2 (HB.out.trans (hb2.mono HB.out.size));have k1:=cell_below HC1.out hb2;clear hb2)
            |(go_at_call 58;refine(HW1.out _ HB2.out).mono ?_;rintro e w3 ⟨rfl,hb3⟩;have HB3:=yH (HB2.out.trans (hb3.mono HB2.out.size));clear hb3))
          exact⟨⟨j+1,by have:=HJ.out;omega,by go_num,HB.out.trans (HB3.out.mono HB.out.size),HF.out⟩,by have:=HJ.out;simp[intOf];omega⟩
    · obtain rfl:j=AL:=by omega
      have hj0:¬(j:Int)<(j:Int):=(by omega);rw[List.drop_of_length_le (by rw[HN.out];exact Nat.le_refl _)]at hsd;have HXR:=yH (show X=R from hsd);have HQ0:=yH hb;have HW0:=yH (HB1.out.trans (hb.mono HB1.out.size));clear hsd hb hlt hj
      cases words with
      |nil=>
        have h0:((WL:Int)==0)=true:=(by rw[←HWL.out];rfl);have HF:=yH (show(!l.isEmpty|| !redirs.isEmpty)=R from by rw[←HXR.out,←HX.out];exact(Bool.and_true _).symm);rw[←HEA.out,←HED.out]at HF;have e1:IntKind.i64.wrap ((j:Int)+(RL:Int))=(j:Int)+(RL:Int):=IntWalk.i64_in _ ⟨by omega,by omega⟩
        by_cases hp:(0:Int)<(j:Int)+(RL:Int)
        · have HF2:=yH (show true=R from by
            rw[←HF.out]
            by_cases h1:(0:Int)<(j:Int)
            · rw[decide_eq_true h1];rfl
            · rw[decide_eq_true (show(0:Int)<(RL:Int) by omega)];simp)
          clear HF HED HEA;go_wp2_with fail;go_ret;exact⟨ret_bool (by rw[←HF2.out]),HW0.out⟩
        · have HF2:=yH (show false=R from by
            rw[←HF.out,decide_eq_false (show ¬(0:Int)<(j:Int) by omega),decide_eq_false (show ¬(0:Int)<(RL:Int) by omega)];rfl)
          clear HF HED HEA;go_wp2_with fail;go_ret;exact⟨ret_bool (by rw[←HF2.out]),HW0.out⟩
      |cons w0 r=>
        obtain⟨bb,oo,rfl⟩:=SlAt.ptr HWV.out (k:=0) (x:=w0) rfl;obtain⟨cs,⟨u,rfl,hu⟩,hcc⟩:=SlAt.cell HWV.out rfl (k:=0) (x:=w0) rfl;obtain⟨up,uc,rfl, -, -⟩:=hu.is;have h0:((WL:Int)==0)=false:=(by rw[←HWL.out];exact int_ne (by rw[List.length_cons];omega));have h00:(0:Int)<(WL:Int):=(by have:=HWL.out;rw[List.length_cons]at this;omega)
        have HD:=yH (show ∀W,Below w1.heap.size w1 W→W.cell? ⟨bb,oo,none⟩=some (.slice up w0.length uc)from fun W hW=>by
          have:=cell_below (hcc 0 _ rfl) (HB1.out.trans (hW.mono HB1.out.size))
          rwa [show oo+0*1+0=oo by omega]at this)
        have HIA:=yH (show ∀W,Below w1.heap.size w1 W→Calls Tryz.prog 59 #[.agg #[.slice up w0.length uc]] W fun e w'=> ∃n:Int,e= .returned (.tuple #[.int .i64 n,.bool (givesT w0)])∧Below W.heap.size W w' from fun W hW=>
          risassign_any w0 _ W (hu.stays (HB1.out.trans (hW.mono HB1.out.size))) (HSM.out.words w0 (by simp)) (HT.out.below (HB1.out.trans (hW.mono HB1.out.size))))
        have HPL:=yH (show ∀W,Below w1.heap.size w1 W→Calls Tryz.prog 60 #[.agg #[.slice up w0.length uc]] W fun e w'=>e= .returned (.tuple #[.string (T ((plainT w0).getD [])),.bool (plainT w0).isSome])∧Below W.heap.size W w' from fun W hW=>
          rplain_any w0 _ W (hu.stays (HB1.out.trans (hW.mono HB1.out.size))))
        have HRS:=yH (fun W=>rreserved_any ((plainT w0).getD []) W);have HOP:=yH (fun W (hW:Below w1.heap.size w1 W)=>ropens_any (w0::r) _ W (WsAt.below HWV.out (HB1.out.trans (hW.mono HB1.out.size))) HSM.out.words (HT.out.below (HB1.out.trans (hW.mono HB1.out.size))));obtain⟨G,hG⟩:∃G,givesT w0=G:=⟨_,rfl⟩;obtain⟨S,hS⟩:∃G,(plainT w0).isSome=G:=⟨_,rfl⟩;obtain⟨RS,hRS⟩:∃G,reservedT ((plainT w0).getD [])=G:=⟨_,rfl⟩;obtain⟨WA,hWA⟩:∃G,(w0::r).all bareW=G:=⟨_,rfl⟩
        have HF:=yH (show((!G&&(!l.isEmpty||(!S|| !RS)))&&WA)=R from by
          rw[←HXR.out,←HX.out,←hG,←hS,←hRS,←hWA,←plain_match]
          rfl)
        rw[←HEA.out]at HF;rw[hG]at HIA;rw[hS]at HPL;rw[hRS]at HRS;rw[hWA]at HOP;obtain⟨ul,hul⟩:∃ul,w0.length=ul:=⟨_,rfl⟩;rw[hul]at HD HIA HPL;obtain⟨t,ht⟩:∃t,T ((plainT w0).getD [])=t:=⟨_,rfl⟩;rw[ht]at HPL HRS;have d0:=HD.out wr HQ0.out;clear hG hS hRS hWA hul ht hcc hu HED HEA
        cases G with
        |true=>
          have HF:=yH (show false=R from by rw[←HF.out];simp)
          go_wp2_with (first
            |(go_at_call 59;refine(HIA.out _ HQ0.out).mono ?_;rintro e w2 ⟨ni,rfl,hb2⟩;have HQ1:=yH (HQ0.out.trans (hb2.mono HQ0.out.size));obtain⟨m0,m1,m2,m3,m4,m5,m6⟩:=HNC.out w2 HQ1.out;have d1:=HD.out w2 HQ1.out;clear hb2)
            |(go_at_call 60;refine(HPL.out _ HQ1.out).mono ?_;rintro e w3 ⟨rfl,hb3⟩;have HQ2:=yH (HQ1.out.trans (hb3.mono HQ1.out.size));obtain⟨m0,m1,m2,m3,m4,m5,m6⟩:=HNC.out w3 HQ2.out;clear hb3))
          go_ret;exact⟨ret_bool HF.out,HB1.out.trans (HQ2.out.mono HB1.out.size)⟩
        |false=>
          by_cases hp:(0:Int)<(j:Int)
          · have HF:=yH (show WA=R from by rw[←HF.out,decide_eq_true hp];simp)
            go_wp2_with (first
              |(go_at_call 59;refine(HIA.out _ HQ0.out).mono ?_;rintro e w2 ⟨ni,rfl,hb2⟩;have HQ1:=yH (HQ0.out.trans (hb2.mono HQ0.out.size));obtain⟨m0,m1,m2,m3,m4,m5,m6⟩:=HNC.out w2 HQ1.out;have d1:=HD.out w2 HQ1.out;clear hb2)
              |(go_at_call 60;refine(HPL.out _ HQ1.out).mono ?_;rintro e w3 ⟨rfl,hb3⟩;have HQ2:=yH (HQ1.out.trans (hb3.mono HQ1.out.size));obtain⟨m0,m1,m2,m3,m4,m5,m6⟩:=HNC.out w3 HQ2.out;clear hb3)
              |(go_at_call 33;refine(HRS.out _).mono ?_;rintro e w4 ⟨rfl,rfl⟩)
              |(go_at_call 30;refine(HOP.out _ HQ2.out).mono ?_;rintro e w5 ⟨rfl,hb5⟩;have HQ3:=yH (HQ2.out.trans (hb5.mono HQ2.out.size));clear hb5))
            go_ret;exact⟨ret_bool HF.out,HB1.out.trans (HQ3.out.mono HB1.out.size)⟩
          · rw[decide_eq_false hp]at HF
            cases S with
            |false=>
              have HF:=yH (show WA=R from by rw[←HF.out];simp)
              go_wp2_with (first
                |(go_at_call 59;refine(HIA.out _ HQ0.out).mono ?_;rintro e w2 ⟨ni,rfl,hb2⟩;have HQ1:=yH (HQ0.out.trans (hb2.mono HQ0.out.size));obtain⟨m0,m1,m2,m3,m4,m5,m6⟩:=HNC.out w2 HQ1.out;have d1:=HD.out w2 HQ1.out;clear hb2)
                |(go_at_call 60;refine(HPL.out _ HQ1.out).mono ?_;rintro e w3 ⟨rfl,hb3⟩;have HQ2:=yH (HQ1.out.trans (hb3.mono HQ1.out.size));obtain⟨m0,m1,m2,m3,m4,m5,m6⟩:=HNC.out w3 HQ2.out;clear hb3)
                |(go_at_call 33;refine(HRS.out _).mono ?_;rintro e w4 ⟨rfl,rfl⟩)
                |(go_at_call 30;refine(HOP.out _ HQ2.out).mono ?_;rintro e w5 ⟨rfl,hb5⟩;have HQ3:=yH (HQ2.out.trans (hb5.mono HQ2.out.size));clear hb5))
              go_ret;exact⟨ret_bool HF.out,HB1.out.trans (HQ3.out.mono HB1.out.size)⟩
            |true=>
              cases RS with
              |false=>
                have HF:=yH (show WA=R from by rw[←HF.out];simp)
                go_wp2_with (first
                  |(go_at_call 59;refine(HIA.out _ HQ0.out).mono ?_;rintro e w2 ⟨ni,rfl,hb2⟩;have HQ1:=yH (HQ0.out.trans (hb2.mono HQ0.out.size));obtain⟨m0,m1,m2,m3,m4,m5,m6⟩:=HNC.out w2 HQ1.out;have d1:=HD.out w2 HQ1.out;clear hb2)
                  |(go_at_call 60;refine(HPL.out _ HQ1.out).mono ?_;rintro e w3 ⟨rfl,hb3⟩;have HQ2:=yH (HQ1.out.trans (hb3.mono HQ1.out.size));obtain⟨m0,m1,m2,m3,m4,m5,m6⟩:=HNC.out w3 HQ2.out;clear hb3)
                  |(go_at_call 33;refine(HRS.out _).mono ?_;rintro e w4 ⟨rfl,rfl⟩)
                  |(go_at_call 30;refine(HOP.out _ HQ2.out).mono ?_;rintro e w5 ⟨rfl,hb5⟩;have HQ3:=yH (HQ2.out.trans (hb5.mono HQ2.out.size));clear hb5))
                go_ret;exact⟨ret_bool HF.out,HB1.out.trans (HQ3.out.mono HB1.out.size)⟩
              |true=>
                have HF:=yH (show false=R from by rw[←HF.out];simp)
                go_wp2_with (first
                  |(go_at_call 59;refine(HIA.out _ HQ0.out).mono ?_;rintro e w2 ⟨ni,rfl,hb2⟩;have HQ1:=yH (HQ0.out.trans (hb2.mono HQ0.out.size));obtain⟨m0,m1,m2,m3,m4,m5,m6⟩:=HNC.out w2 HQ1.out;have d1:=HD.out w2 HQ1.out;clear hb2)
                  |(go_at_call 60;refine(HPL.out _ HQ1.out).mono ?_;rintro e w3 ⟨rfl,hb3⟩;have HQ2:=yH (HQ1.out.trans (hb3.mono HQ1.out.size));obtain⟨m0,m1,m2,m3,m4,m5,m6⟩:=HNC.out w3 HQ2.out;clear hb3)
                  |(go_at_call 33;refine(HRS.out _).mono ?_;rintro e w4 ⟨rfl,rfl⟩)
                  |(go_at_call 30;refine(HOP.out _ HQ2.out).mono ?_;rintro e w5 ⟨rfl,hb5⟩;have HQ3:=yH (HQ2.out.trans (hb5.mono HQ2.out.size));clear hb5))
                go_ret;exact⟨ret_bool HF.out,HB1.out.trans (HQ2.out.mono HB1.out.size)⟩
set_option maxHeartbeats 1000000 in
set_option maxRecDepth 100000 in
theorem rpats_loop (o x:ByteArray) (kp wp pp ap rp:Option Addr) (KL WL AL RL kc wc pc ac rc:Nat) (l:List (List (List Pt))) (w:World) (hv:PatsAt w (.slice pp l.length pc) l) (hs:∀x∈l,∀y∈x,Small y) (hT:Tabs w):
    Calls Tryz.prog 32 #[.agg #[.string o,.string x,.slice kp KL kc,.slice wp WL wc,.slice pp l.length pc,.slice ap AL ac,.slice rp RL rc]] w fun e w'=>e= .returned (.bool (l.all patT&&(l.length==KL)))∧Below w.heap.size w w':=by
  have HV:=yH hv;have HS:=yH hs;have HT:=yH hT;have hfew:=hv.few;obtain⟨R,hR⟩:∃R,(l.all patT&&(l.length==KL))=R:=⟨_,rfl⟩;have HR:=yH hR;obtain⟨PL,hN⟩:∃N,l.length=N:=⟨_,rfl⟩;have HN:=yH hN;have hN0:(PL:Int)≤2^63-1:=(by unfold maxLen at hfew;omega);rw[hR];rw[hN]at HV ⊢;have HR:=yH (show(l.all patT&&(PL==KL))=R from by rw[←hN];exact HR.out);have HA:=yH (node_all w);have HBX:=yH (fun o=>below_one w o);clear hv hs hR hN hfew hT;go_enter Tryz.func32,Tryz.ntmps32;go_wp2_with fail;obtain⟨w1,hw1⟩:∃w1,w.alloc (.cells #[.string o,.string x,.slice kp KL kc,.slice wp WL wc,.slice pp PL pc,.slice ap AL ac,.slice rp RL rc] 44)=w1:=⟨_,rfl⟩;have HB1:=yH (show Below w.heap.size w w1 by rw[←hw1];exact HBX.out _);have HNC:=yH (show ∀W,Below w1.heap.size w1 W→_ from by rw[←hw1];exact HA.out o x (.slice kp KL kc) (.slice wp WL wc) (.slice pp PL pc) (.slice ap AL ac) (.slice rp RL rc) 44);rw[hw1];clear hw1
  go_loopw [3] (fun i wr=> ∃j,j≤PL∧i= .int .i64 (j:Int)∧Below w1.heap.size w1 wr∧((l.drop j).all patT&&(PL==KL))=R) (fun i _=>PL-(intOf i).toNat)
  case atStart=>exact⟨0,by omega,rfl,Below.refl _ _,HR.out⟩
  case round=>
    obtain⟨j,hj,rfl,hb,hsd⟩:=hrel;obtain⟨n0,n1,n2,n3,n4,n5,n6⟩:=HNC.out wr hb
    by_cases hlt:j<PL
    · obtain⟨y,hy⟩:∃y,l[j]? =some y:=⟨_,List.getElem?_eq_getElem (by rw[HN.out];exact hlt)⟩
      obtain⟨bb,oo,rfl⟩:=SlAt.ptr HV.out hy;obtain⟨cs,⟨u,rfl,hu⟩,hcc⟩:=SlAt.cell HV.out rfl hy;have hj0:(j:Int)<(PL:Int):=(by omega);have HSX:=yH (HS.out y (List.mem_of_getElem? hy));rw[drop_get hy,List.all_cons]at hsd;have HB:=yH hb;have HW0:=yH (HB1.out.trans (hb.mono HB1.out.size));have HJ:=yH hlt
      have c0:wr.cell? ⟨bb,oo+j,none⟩=some u:=by
        have:=cell_below (hcc 0 _ rfl) HW0.out
        rwa [show oo+j*1+0=oo+j by omega]at this
      obtain⟨up,uc,rfl⟩:=WsAt.is hu;have HE:=yH (ropens_any y (.slice up y.length uc) wr (WsAt.below hu HW0.out) HSX.out (HT.out.below HW0.out));have hE:=empty_len y;obtain⟨ul,hul⟩:∃ul,y.length=ul:=⟨_,rfl⟩;obtain⟨P,hP⟩:∃P,y.all bareW=P:=⟨_,rfl⟩;obtain⟨E,hEE⟩:∃E,y.isEmpty=E:=⟨_,rfl⟩;have HRT:=yH (show(((!E&&P)&&(l.drop (j+1)).all patT)&&(PL==KL))=R from by rw[←hP,←hEE];exact hsd);rw[hP]at HE;rw[hul]at HE c0 hE;rw[hEE]at hE;clear hul hP hEE hsd hb hlt hj hy hcc hu
      cases E with
      |true=>
        have HF:=yH (show false=R from HRT.out);go_wp2_with fail;go_ret;exact⟨ret_bool HF.out,HW0.out⟩
      |false=>
        cases P
        · have HF:=yH (show false=R from HRT.out)
          go_wp2_with (go_at_call 30;refine HE.out.mono ?_;rintro e w2 ⟨rfl,hb2⟩;have HB2:=yH hb2;clear hb2)
          go_ret;exact⟨ret_bool HF.out,HW0.out.trans (HB2.out.mono HW0.out.size)⟩
        · have HF:=yH (show((l.drop (j+1)).all patT&&(PL==KL))=R from HRT.out)
          go_wp2_with (go_at_call 30;refine HE.out.mono ?_;rintro e w2 ⟨rfl,hb2⟩;have HB2:=yH hb2;clear hb2)
          exact⟨⟨j+1,by have:=HJ.out;omega,by go_num,HB.out.trans (HB2.out.mono HB.out.size),HF.out⟩,by have:=HJ.out;simp[intOf];omega⟩
    · obtain rfl:j=PL:=by omega
      have hj0:¬(j:Int)<(j:Int):=(by omega);rw[List.drop_of_length_le (by rw[HN.out];exact Nat.le_refl _)]at hsd;have HE:=yH (show(j==KL)=R from hsd);have HB:=yH (HB1.out.trans (hb.mono HB1.out.size));have hk:=nat_beq j KL;obtain⟨Q,hQ⟩:∃Q,(j==KL)=Q:=⟨_,rfl⟩;rw[hQ]at hk HE;clear hsd hb hlt hj hQ;go_wp2_with fail;go_ret;exact⟨ret_bool HE.out,HB.out⟩
theorem rpats_any (n:Nd) (kp wp pp ap rp:Option Addr) (kc wc pc ac rc:Nat) (w:World) (hp:PatsAt w (.slice pp n.pats.length pc) n.pats) (hs:NSmall n) (hT:Tabs w):
    Calls Tryz.prog 32 #[NV n kp wp pp ap rp kc wc pc ac rc] w fun e w'=>e= .returned (.bool (rpatsT n))∧Below w.heap.size w w':=
  rpats_loop (T n.op) (T n.name) kp wp pp ap rp n.kids.length n.words.length n.assigns.length n.redirs.length kc wc pc ac rc n.pats w hp hs.pats hT
structure OneC (w:World) (o x:ByteArray) (kp wp pp ap rp:Option Addr) (KL WL PL AL RL kc wc pc ac rc:Nat) (RD CM N RS WA PT:Bool):Prop where
  rd:∀W,Below w.heap.size w W→Calls Tryz.prog 27 #[.agg #[.string o,.string x,.slice kp KL kc,.slice wp WL wc,.slice pp PL pc,.slice ap AL ac,.slice rp RL rc]] W fun e w'=>e= .returned (.bool RD)∧Below W.heap.size W w'
  cm:∀W,Below w.heap.size w W→Calls Tryz.prog 28 #[.agg #[.string o,.string x,.slice kp KL kc,.slice wp WL wc,.slice pp PL pc,.slice ap AL ac,.slice rp RL rc]] W fun e w'=>e= .returned (.bool CM)∧Below W.heap.size W w'
  pt:∀W,Below w.heap.size w W→Calls Tryz.prog 32 #[.agg #[.string o,.string x,.slice kp KL kc,.slice wp WL wc,.slice pp PL pc,.slice ap AL ac,.slice rp RL rc]] W fun e w'=>e= .returned (.bool PT)∧Below W.heap.size W w'
  nm:∀W,Below w.heap.size w W→Calls Tryz.prog 29 #[.string x] W fun e w'=>e= .returned (.bool N)∧Below W.heap.size W w'
  rs:∀W,Calls Tryz.prog 33 #[.string x] W fun e w'=>e= .returned (.bool RS)∧W=w'
  op:∀W,Below w.heap.size w W→Calls Tryz.prog 30 #[.slice wp WL wc] W fun e w'=>e= .returned (.bool WA)∧Below W.heap.size W w'
  w0:WL=1→∃bb oo u,wp=some ⟨bb,oo,none⟩∧(∀W,Below w.heap.size w W→W.cell? ⟨bb,oo,none⟩=some u)∧∀W,Below w.heap.size w W→Calls Tryz.prog 31 #[.agg #[u]] W fun e w'=>e= .returned (.bool WA)∧Below W.heap.size W w'
def opsL:List (List UInt8):= [[99,109,100],[115,101,113],[97,110,100],[111,114],[110,111,116],[112,105,112,101],[105,102],[119,104,105,108,101],[117,110,116,105,108],[102,111,114],[99,97,115,101],[102,117,110],[103,114,111,117,112],[115,117,98]]
theorem ops_none {l:List UInt8} (h:opsL.contains l=false):(l== [99,109,100])=false∧(l== [115,101,113])=false∧(l== [97,110,100])=false∧(l== [111,114])=false∧(l== [110,111,116])=false∧(l== [112,105,112,101])=false∧(l== [105,102])=false∧(l== [119,104,105,108,101])=false∧(l== [117,110,116,105,108])=false∧(l== [102,111,114])=false∧(l== [99,97,115,101])=false∧(l== [102,117,110])=false∧(l== [103,114,111,117,112])=false∧(l== [115,117,98])=false:=by
  simpa [opsL]using h
end Go.Proofs.YtakceggnadagmaaGreatDoor
