/-
  Proved: contracts of functions, plain facts. Conditions: as each says.
-/
import Derived.Test.YtcpmjkefbjbhpaaGreatDoorOutParts
import Derived.Test.YtcpmjkefbjbhpaaGreatDoorTreeShape
import Derived.Test.YtcpmjkefbjbhpaaGreatDoorSw48
import Derived.Test.YtcpmjkefbjbhpaaGreatDoorTreeSpells
namespace Go.Proofs.YtcpmjkefbjbhpaaGreatDoor
open Go Go.RowKit GlyphMath LexMath TreeMath ShowMath
def sepS (sep:List UInt8) (c:Nat):List UInt8:=if c=0 then []else sep
def remS (sep:List UInt8) (xs:List (List UInt8)) (c:Nat):List UInt8:=if c=0 then joinS sep xs else((xs.drop c).map (sep++ ·)).flatten
theorem rem_step {sep:List UInt8} {xs:List (List UInt8)} {c:Nat} {x:List UInt8} (h:xs[c]? =some x):remS sep xs c=sepS sep c++(x++remS sep xs (c+1)):=by
  unfold remS sepS;rw[if_neg (by omega:¬c+1=0)]
  by_cases hc:c=0
  · subst hc
    rw[if_pos rfl,if_pos rfl]
    cases xs with
    |nil=>simp at h
    |cons a r=>
      obtain rfl:a=x:=(by simpa using h);rfl
  · rw[if_neg hc,if_neg hc,drop_get h,List.map_cons,List.flatten_cons,List.append_assoc]
theorem rem_end {sep:List UInt8} {xs:List (List UInt8)} {c:Nat} (h:xs.length≤c):remS sep xs c= []:=by
  unfold remS
  split
  · rename_i hc
    have:xs= []:=List.eq_nil_of_length_eq_zero (by omega);rw[this];rfl
  · rw[List.drop_of_length_le h];rfl
theorem rem_zero (sep:List UInt8) (xs:List (List UInt8)):remS sep xs 0=joinS sep xs:=by unfold remS;rw[if_pos rfl]
theorem one_cell {w:World} {k:Nat} {u:Value} {t:TypeId} {fr:Nat×Nat} (h:w.heap[k]? =some (.cells #[u] t fr)):w.cell? ⟨k,0,none⟩=some u:=by rw[cell_plain h];rfl
theorem two_cells {w:World} {k:Nat} {u v:Value} {t:TypeId} {fr:Nat×Nat} (h:w.heap[k]? =some (.cells #[u,v] t fr)):w.cell? ⟨k,0,none⟩=some u∧w.cell? ⟨k,1,none⟩=some v:=by rw[cell_plain h,cell_plain h];exact⟨rfl,rfl⟩
theorem wword_in {w0:World} {b:Nat} {nv:Value} {ps:List Pt} {p:Option Addr} {n c:Nat} (hn:ps.length=n) (hv:PsAt w0 (.slice p ps.length c) ps) (hd:wordT ps=true) {l:List UInt8} (hL:l.length+(wordS ps).length≤BigW):
    ∀W,Below w0.heap.size w0 W→Wr W w0.heap.size b nv l→Calls Tryz.prog 38 #[.pointer (some ⟨b,0,none⟩),.slice p n c] W fun e w'=>e= .returned (.tuple #[])∧Wr w' w0.heap.size b nv (l++wordS ps)∧Ws w0.heap.size b W w':=by
  subst hn;exact fun W h1 h2=>wword_any hv hd h1 h2 hL
set_option maxHeartbeats 2000000 in
set_option maxRecDepth 100000 in
theorem wwords_any {w0:World} {b:Nat} {nv v:Value} {ps:List (List Pt)} {sep l:List UInt8} {w:World} (hv:WsAt w0 v ps) (hd:∀x∈ps,wordT x=true) (hb:Below w0.heap.size w0 w) (hw:Wr w w0.heap.size b nv l) (hL:l.length+(joinS sep (ps.map wordS)).length≤BigW):
    Puts 75 #[v,.string (T sep)] w0.heap.size b nv l (joinS sep (ps.map wordS)) w:=by
  have hlen:=hv.few;obtain⟨⟨p,c,rfl,hat⟩, -⟩:=hv;have HAT:=yH hat;have HD:=yH hd;have H0:=yH (And.intro hw (And.intro hb hb.size));have HLT:=yH hw.lt;obtain⟨xs,hxs⟩:∃xs,ps.map wordS=xs:=⟨_,rfl⟩;have HXS:=yH hxs;rw[hxs]at hL ⊢;obtain⟨R,hRR⟩:∃R,l++joinS sep xs=R:=⟨_,rfl⟩;have hRL:=congrArg List.length hRR;rw[List.length_append]at hRL;have HL:=yH (show R.length≤BigW by omega);unfold Puts;rw[hRR];have HR:=yH (show l++remS sep xs 0=R by rw[rem_zero];exact hRR);show Calls Tryz.prog 75 #[.pointer (some ⟨b,0,none⟩),.slice p ps.length c,.string (T sep)] w _;obtain⟨N,hN⟩:∃N,ps.length=N:=⟨_,rfl⟩;have HN:=yH (show xs.length=N by rw[←hxs,List.length_map,hN]);have hN0:(N:Int)≤2^63-1:=(by unfold maxLen at hlen;omega);rw[hN];obtain⟨S,hS⟩:∃S,T sep=S:=⟨_,rfl⟩;have HS0:=yH hS;rw[hS];clear hRR hd hlen hat hN hL hw hb hRL hxs hS;go_enter Tryz.func75,Tryz.ntmps75;go_wp2_with fail
  go_loopw [10] (fun i wr=> ∃(j:Nat) (m:List UInt8),i= .int .i64 (j:Int)∧j≤N∧Wr wr w0.heap.size b nv m∧Ws w0.heap.size b w wr∧m++remS sep xs j=R) (fun i _=>N-(intOf i).toNat)
  case atStart=>exact⟨0,l,rfl,by omega,H0.out.1,Ws.refl _ _ _,HR.out⟩
  case round=>
    obtain⟨j,m,rfl,hj,hw,hs,hr⟩:=hrel;have hb:=H0.out.2.1.trans hs.below
    by_cases hlt:j<N
    · obtain⟨x,hx⟩:∃x,xs[j]? =some x:=⟨_,List.getElem?_eq_getElem (by rw[HN.out];exact hlt)⟩
      have hx2:=hx;rw[←HXS.out,List.getElem?_map]at hx2;obtain⟨q,hq,hqx⟩:=Option.map_eq_some_iff.1 hx2;obtain⟨cs,hsp,u,rfl,hu⟩:=HAT.out j q hq;have hsp:=hsp.below hb;obtain⟨bk,o,rfl,hc⟩:=hsp;have c0:=hc 0 _ rfl;rw[Nat.add_zero,Nat.mul_one]at c0;have hqd:=HD.out q (List.mem_of_getElem? hq);rw[rem_step hx]at hr;have hl:=congrArg List.length hr;simp only[List.length_append]at hl;have HL1:=HL.out;have hlb:=HLT.out;have hX:wr.heap.size≠b:=(by have:=hs.below.size;omega);have HB:=yH (Nat.le_trans H0.out.2.2 hs.below.size);obtain⟨up,uc,rfl, -, -⟩:=hu.is;obtain⟨n1,hn1⟩:∃n,q.length=n:=⟨_,rfl⟩;have HC:=yH (wword_in (b:=b) (nv:=nv) hn1 hu hqd (l:=m++sepS sep j) (by rw[hqx];simp;omega));rw[hqx]at HC;rw[hn1]at c0;have HRR:=yH (show((m++sepS sep j)++x)++remS sep xs (j+1)=R from by rw[←hr];simp only[List.append_assoc]);have HS:=yH (And.intro hs (And.intro hw hb));have HJ:=yH hlt;have hj0:(j:Int)<(N:Int):=(by omega)
      by_cases hz:j=0
      · subst hz
        have hjz:¬(0:Int)<((0:Nat):Int):=(by omega);rw[Nat.add_zero]at c0;have e:m++sepS sep 0=m:=(by unfold sepS;simp);rw[e]at HC HRR;clear hc hr hl hj hlt hq hx hx2 hu hn1 hqx hqd HL1 hlb hs hw hb e
        go_wp2_with (go_at_call 38;refine(HC.out _ (HS.out.2.2.alloc HB.out _) (HS.out.2.1.alloc _)).mono ?_;rintro e w3 ⟨rfl,hw3,hs3⟩;have H3:=yH (And.intro hw3 (((HS.out.1).alloc H0.out.2.2 _).trans hs3));clear hw3 hs3)
        exact⟨⟨0+1,_,by simp,HJ.out,H3.out.1,H3.out.2,HRR.out⟩,by have:=HJ.out;simp[intOf];omega⟩
      · have hjz:(0:Int)<(j:Int):=by omega
        have e:sepS sep j=sep:=(by unfold sepS;rw[if_neg hz]);rw[e]at HC HRR hl;have HQ:=yH (wput_at w0.heap.size b nv m [sep] (by simp;omega) (by simp));have HQ:=yH (show ∀(W:World) (n:Nat),n=W.heap.size→Wr W w0.heap.size b nv m→w0.heap.size≤W.heap.size→Calls Tryz.prog 74 #[.pointer (some ⟨b,0,none⟩),.slice (some ⟨n,0,none⟩) 1 1] (W.alloc (.cells #[.string S] 9)) fun e w'=>e= .returned (.tuple #[])∧Wr w' w0.heap.size b nv (m++sep)∧Ws w0.heap.size b W w' from by rw[←HS0.out];have:=HQ.out;rwa [show [sep].flatten=sep from by simp]at this);clear hc hr hl hj hlt hq hx hx2 hu hn1 hqx hqd HL1 hlb hs hw hb e hz
        go_wp2_with (go_at_call 74;refine(HQ.out _ _ (by simp) (HS.out.2.1.alloc _) (by simp;have:=HB.out;omega)).mono ?_;rintro e w2 ⟨rfl,hw2,hs2⟩;have e0:=one_cell (cells_kept (heap_alloc_new wr _) hs2 hX (by decide));have H2:=yH (And.intro hw2 (((HS.out.1).alloc H0.out.2.2 _).trans hs2));clear hw2 hs2)
        go_wp2_with (go_at_call 38;refine(HC.out _ (H0.out.2.1.trans H2.out.2.below) H2.out.1).mono ?_;rintro e w3 ⟨rfl,hw3,hs3⟩;have H3:=yH (And.intro hw3 (H2.out.2.trans hs3));clear hw3 hs3)
        exact⟨⟨j+1,_,by simp,HJ.out,H3.out.1,H3.out.2,HRR.out⟩,by have:=HJ.out;simp[intOf];omega⟩
    · obtain rfl:j=N:=by omega
      rw[rem_end (by rw[HN.out];exact Nat.le_refl _),List.append_nil]at hr;subst hr;have hj0:¬(j:Int)<(j:Int):=(by omega);have HW:=yH (And.intro hw hs);clear hj hlt hb hw hs;go_wp2_with fail
      go_end0
      exact⟨rfl,HW.out⟩
def redirOne (x:List UInt8×List Pt):List UInt8:=x.1++([32]++wordS x.2)
set_option maxHeartbeats 2000000 in
set_option maxRecDepth 100000 in
theorem wredir_any {w0:World} {b:Nat} {nv u:Value} {x:List UInt8×List Pt} {l:List UInt8} {w:World} (hv:PsAt w0 u x.2) (hd:wordT x.2=true) (hb:Below w0.heap.size w0 w) (hw:Wr w w0.heap.size b nv l) (hL:l.length+(redirOne x).length≤BigW):
    Puts 77 #[.agg #[txt x.1,u]] w0.heap.size b nv l (redirOne x) w:=by
  obtain⟨op,ps⟩:=x;have hX:w.heap.size≠b:=(by have:=hw.lt;omega);have HB:=yH hb.size;have H0:=yH (And.intro hw (And.intro hb hb.size));unfold redirOne at hL ⊢;dsimp only at hL hv hd ⊢;simp only[List.length_append,List.length_singleton]at hL;have HQ:=yH (wput_at w0.heap.size b nv l [op,[32]] (by simp;omega) (by simp));obtain⟨m,hm⟩:∃m,l++ [op,[32]].flatten=m:=⟨_,rfl⟩;have hml:=congrArg List.length hm;simp only[List.length_append,List.flatten_cons,List.flatten_nil,List.length_singleton,List.length_nil]at hml;rw[hm]at HQ;obtain⟨up,uc,rfl, -, -⟩:=hv.is;obtain⟨n1,hn1⟩:∃n,ps.length=n:=⟨_,rfl⟩;have HC:=yH (wword_in (b:=b) (nv:=nv) hn1 hv hd (l:=m) (by omega));unfold Puts;rw[show l++(op++([32]++wordS ps))=m++wordS ps from by rw[←hm];simp];show Calls Tryz.prog 77 #[.pointer (some ⟨b,0,none⟩),.agg #[.string (T op),.slice up ps.length uc]] w _;obtain⟨S,hS⟩:∃S,T op=S:=⟨_,rfl⟩;have HQ:=yH (show ∀(W:World) (n:Nat),n=W.heap.size→Wr W w0.heap.size b nv l→w0.heap.size≤W.heap.size→Calls Tryz.prog 74 #[.pointer (some ⟨b,0,none⟩),.slice (some ⟨n,0,none⟩) 2 2] (W.alloc (.cells #[.string S,.string ⟨#[32]⟩] 9)) fun e w'=>e= .returned (.tuple #[])∧Wr w' w0.heap.size b nv m∧Ws w0.heap.size b W w' from by rw[←hS];exact HQ.out);rw[hS,hn1];obtain⟨L,hLL⟩:∃L,m++wordS ps=L:=⟨_,rfl⟩;rw[hLL]at HC ⊢;clear hL hv hd hm hml hn1 hS hLL hw hb;go_enter Tryz.func77,Tryz.ntmps77
  go_wp2_with (go_at_call 74;refine(HQ.out _ _ (by simp) (H0.out.1.alloc _) (by simp;have:=HB.out;omega)).mono ?_;rintro e w2 ⟨rfl,hw2,hs2⟩;obtain⟨e0,e1⟩:=two_cells (cells_kept (heap_alloc_new w _) hs2 hX (by decide));have H2:=yH (And.intro hw2 (((Ws.refl w0.heap.size b w).alloc H0.out.2.2 _).trans hs2));clear hw2 hs2)
  go_wp2_with (go_at_call 38;refine(HC.out _ (H0.out.2.1.trans H2.out.2.below) H2.out.1).mono ?_;rintro e w3 ⟨rfl,hw3,hs3⟩;have H3:=yH (And.intro hw3 (H2.out.2.trans hs3));clear hw3 hs3)
  go_end0
  exact⟨rfl,H3.out⟩
end Go.Proofs.YtcpmjkefbjbhpaaGreatDoor
namespace Go.Proofs.YtcpmjkefbjbhpaaGreatDoor
open Go Go.RowKit GlyphMath LexMath TreeMath
theorem wpList_index {P:Program} {ops:Array Oper} {rest:List Oper} {op:Oper} {a:Act} {w:World} {Q:Exit→Act→World→Prop} (hgd:op.guard=none) (ty:TypeId) (x i:Operand) (ho:op.op= .index ty x i)
    (X I v:Value) (hx:a.eval x=X) (hi:a.eval i=I) (hr:(Instr.index ty X I).run P w= .ok v w) (h:wpList P ops Q rest (a.put op.dst v) w):wpList P ops Q (op::rest) a w:=
  wpList_plain hgd fun _ hK=>by
    unfold Oper.wp execOp;simp only[ho,hx,hi,Sem.run_bind,Sem.run_pure,Result.andThen_ok,hr];exact hK _ _ h
set_option maxHeartbeats 2000000 in
set_option maxRecDepth 100000 in
theorem fits_any (n:Nd) (kp wp pp ap rp:Option Addr) (kc wc pc ac rc:Nat) (w:World) (hS:Shapes w):
    Calls Tryz.prog 116 #[NV n kp wp pp ap rp kc wc pc ac rc] w fun e w'=>e= .returned (.bool (fitsT n))∧Below w.heap.size w w':=by
  have HB:=yH (fun o=>below_one w o);have HS:=yH (fun o=>Shapes.below hS (below_one w o));obtain⟨R,hR⟩:∃R,fitsT n=R:=⟨_,rfl⟩;have HR:=yH (show(match shapesL.find? (fun s=>s.op==n.op)with|some s=>shapeT s n|none=>false)=R from hR);rw[hR];have HF:=yH (fun s W=>shape_any s n kp wp pp ap rp kc wc pc ac rc W);obtain⟨V,hV⟩:∃V,Value.agg shapeCells.toArray=V:=⟨_,rfl⟩;have HIX:=yH (show ∀(k:Nat) (s:Sh),shapesL[k]? =some s→∀W,(Instr.index 189 V (.int .i64 (k:Int))).run Tryz.prog W= .ok (shapeV s) W from fun k s h W=>by rw[←hV];exact shape_at W k s h);have HV:=yH hV;obtain⟨o,ho⟩:∃o,T n.op=o:=⟨_,rfl⟩;have HL:=yH (show o.toList=n.op by rw[←ho,Lib.toList_data]);obtain⟨x,hx⟩:∃o,T n.name=o:=⟨_,rfl⟩;have HF:=yH (show ∀s W,Calls Tryz.prog 145 #[shapeV s,.agg #[.string o,.string x,.slice kp n.kids.length kc,.slice wp n.words.length wc,.slice pp n.pats.length pc,.slice ap n.assigns.length ac,.slice rp n.redirs.length rc]] W fun e w'=>e= .returned (.bool (shapeT s n))∧Below W.heap.size W w' from fun s W=>by rw[←ho,←hx];exact HF.out s W);show Calls _ _ #[.agg #[.string (T n.op),.string (T n.name),.slice kp n.kids.length kc,.slice wp n.words.length wc,.slice pp n.pats.length pc,.slice ap n.assigns.length ac,.slice rp n.redirs.length rc]] _ _;rw[ho,hx]
  generalize n.pats.length=PL at HF ⊢
  generalize n.words.length=WL at HF ⊢
  generalize n.assigns.length=AL at HF ⊢
  generalize n.redirs.length=RL at HF ⊢
  generalize n.kids.length=KL at HF ⊢
  have HN:=yH (heap_alloc_new w (.cells #[.string o,.string x,.slice kp KL kc,.slice wp WL wc,.slice pp PL pc,.slice ap AL ac,.slice rp RL rc] 41));clear hS hR hV ho hx;go_enter Tryz.func116,Tryz.ntmps116
  go_wp2_with (refine wpList_load_mid (by rfl) 189 (.global 2) (by rfl) 2 0 (by rfl) shapeCells _ (HS.out _) Tryz.underlying189 (by rfl) info_shapes ?_;rw[HV.out])
  go_loopw [6] (fun i wr=> ∃k:Nat,i= .int .i64 (k:Int)∧k≤14∧Below w.heap.size w wr∧wr.heap[w.heap.size]? =some (.cells #[.string o,.string x,.slice kp KL kc,.slice wp WL wc,.slice pp PL pc,.slice ap AL ac,.slice rp RL rc] 41)∧(match (shapesL.drop k).find? (fun s=>s.op==n.op)with|some s=>shapeT s n|none=>false)=R) (fun i _=>14-(intOf i).toNat)
  case atStart=>exact⟨0,rfl,by omega,HB.out _,HN.out,HR.out⟩
  case round=>
    obtain⟨k,rfl,hk,hb,hn,hsd⟩:=hrel
    by_cases hlt:k<14
    · obtain⟨s,hs⟩:∃s,shapesL[k]? =some s:=⟨_,List.getElem?_eq_getElem hlt⟩
      have ix:=HIX.out k s hs;rw[drop_get hs,List.find?_cons]at hsd;have c0:=fun y=>cell_below (cell_plain hn 0) (below_one wr y);have c1:=fun y=>cell_below (cell_plain hn 1) (below_one wr y);have c2:=fun y=>cell_below (cell_plain hn 2) (below_one wr y);have c3:=fun y=>cell_below (cell_plain hn 3) (below_one wr y);have c4:=fun y=>cell_below (cell_plain hn 4) (below_one wr y);have c5:=fun y=>cell_below (cell_plain hn 5) (below_one wr y);have c6:=fun y=>cell_below (cell_plain hn 6) (below_one wr y);have HK:=yH (And.intro hlt (And.intro hb hn));have hk0:(k:Int)<14:=(by omega);have HSF:=yH (HF.out s);have HST:=yH (show shapeT s n=shapeT s n from rfl);obtain⟨sop,k0,k1,w0,w1,sn,sp,sa,sr⟩:=s;obtain⟨z,hz⟩:∃z,T sop=z:=⟨_,rfl⟩;have hze:(z.toList==o.toList)=(sop==n.op):=(by rw[HL.out,←hz,Lib.toList_data]);replace ix:∀W,(Instr.index 189 V (.int .i64 (k:Int))).run Tryz.prog W= .ok (.agg #[.string z,.int .i64 k0,.int .i64 k1,.int .i64 w0,.int .i64 w1,.bool sn,.bool sp,.bool sa,.bool sr]) W:=(by rw[←hz];exact ix);have HSF:=yH (show ∀W,Calls Tryz.prog 145 #[.agg #[.string z,.int .i64 k0,.int .i64 k1,.int .i64 w0,.int .i64 w1,.bool sn,.bool sp,.bool sa,.bool sr],.agg #[.string o,.string x,.slice kp KL kc,.slice wp WL wc,.slice pp PL pc,.slice ap AL ac,.slice rp RL rc]] W fun e w'=>e= .returned (.bool (shapeT ⟨sop,k0,k1,w0,w1,sn,sp,sa,sr⟩ n))∧Below W.heap.size W w' from by rw[←hz];exact HSF.out);have HIK:=yH ix;clear ix;obtain⟨Q,hQ⟩:∃Q,(sop==n.op)=Q:=⟨_,rfl⟩;rw[hQ]at hze
      cases Q with
      |true=>
        have HSD:=yH (show shapeT ⟨sop,k0,k1,w0,w1,sn,sp,sa,sr⟩ n=R from by
          simp only[hQ]at hsd
          exact hsd)
        clear hsd hb hn hlt hk hs hz hQ HST;rw[HSD.out]at HSF
        go_wp2_with (first|(refine wpList_index (by rfl) 189 (.tmp 5) (.tmp 6) (by rfl) V (.int .i64 (k:Int)) _ (by rfl) (by rfl) (HIK.out _) ?_)|(go_at_call 145;refine(HSF.out _).mono ?_;rintro e w2 ⟨rfl,hb2⟩;have HB2:=yH hb2;clear hb2))
        go_ret;exact⟨rfl,HK.out.2.1.trans (((below_one _ _).trans (HB2.out.mono (below_one _ _).size)).mono HK.out.2.1.size)⟩
      |false=>
        have HSD:=yH (show(match (shapesL.drop (k+1)).find? (fun s=>s.op==n.op)with|some s=>shapeT s n|none=>false)=R from by
          simp only[hQ]at hsd
          exact hsd)
        clear hsd hb hn hlt hk hs hz hQ HST HSF
        go_wp2_with (refine wpList_index (by rfl) 189 (.tmp 5) (.tmp 6) (by rfl) V (.int .i64 (k:Int)) _ (by rfl) (by rfl) (HIK.out _) ?_)
        exact⟨⟨k+1,by go_num,by have:=HK.out.1;omega,HK.out.2.1.trans ((below_one _ _).mono HK.out.2.1.size),((below_one _ _).block _ (gS.1 HK.out.2.2).1).trans HK.out.2.2,HSD.out⟩,by have:=HK.out.1;simp[intOf];omega⟩
    · obtain rfl:k=14:=by omega
      have HE:=yH (show false=R from hsd);have HBB:=yH hb;clear hsd hb hn hlt hk;go_wp2_with fail;go_ret;exact⟨ret_bool HE.out,HBB.out⟩
def NodeEnd (X:Nat) (nv:Value) (r:Option Nat) (e:Ending) (w':World):Prop:=match r with
  |some m=>e= .returned (.bool true)∧w'.heap[X]? =some (.cells #[nv,.int .i64 (m:Int)] 114 (0,0))
  |none=>e= .returned (.bool false)
def NodeDo (w0:World) (X:Nat) (nv:Value) (ns:List Nd) (f:Nat):Prop:=∀(k:Int) (next:Nat) (w:World),Below w0.heap.size w0 w→w.heap[X]? =some (.cells #[nv,.int .i64 (next:Int)] 114 (0,0))→ns.length-next≤f→
  Calls Tryz.prog 71 #[.pointer (some ⟨X,0,none⟩),.int .i64 k] w fun e w'=>Kept (fun b=>b=X) w w'∧Below w0.heap.size w0 w'∧NodeEnd X nv (walkT ns f k next) e w'
theorem walk_stop {ns:List Nd} {k:Int} {next:Nat} (h:k≠(next:Int)∨ns.length≤next):∀f,walkT ns f k next=none
  |0=>rfl
  |f+1=>by
    rw[walkT]
    by_cases hk:k=(next:Int)
    · have h2:ns[next]? =none:=List.getElem?_eq_none (h.resolve_left fun e=>e hk)
      rw[if_pos hk,h2]
    · rw[if_neg hk]
theorem kids_more {walk:Int→Nat→Option Nat} {ns:List Nd} {n:Nd} (hw:∀k next m,walk k next=some m→next<m):∀(ks:List Int) (i next m:Nat),kidsT walk ns n i ks next=some m→next≤m
  | [],i,next,m,h=>by
    rw[kidsT]at h;have:=Option.some.inj h;omega
  |k::ks,i,next,m,h=>by
    rw[kidsT]at h
    cases hk:walk k next with
    |none=>rw[hk]at h;cases h
    |some m'=>
      rw[hk]at h;have h1:=hw k next m' hk;simp only at h
      cases hn:ns[k.toNat]? with
      |none=>rw[hn]at h;cases h
      |some kd=>
        rw[hn]at h;simp only at h
        split at h
        · have:=kids_more hw ks (i+1) m' m h
          omega
        · cases h
theorem walk_more {ns:List Nd} :∀(f:Nat) (k:Int) (next m:Nat),walkT ns f k next=some m→next<m∧k=(next:Int)∧next<ns.length
  |0,k,next,m,h=>by cases h
  |f+1,k,next,m,h=>by
    rw[walkT]at h
    split at h
    · rename_i hk
      cases hn:ns[next]? with
      |none=>rw[hn]at h;cases h
      |some n=>
        rw[hn]at h;simp only at h
        split at h
        · have:=kids_more (fun k next m h=>(walk_more f k next m h).1) n.kids 0 (next+1) m h
          exact⟨by omega,hk,(List.getElem?_eq_some_iff.1 hn).1⟩
        · cases h
    · cases h
set_option maxRecDepth 100000 in
theorem node_stop {w0:World} {X:Nat} {np:Option Addr} {nc:Nat} {ns:List Nd} {k:Int} {next:Nat} {f:Nat} {w:World} (h:k≠(next:Int)∨ns.length≤next) (hb:Below w0.heap.size w0 w) (hw:w.heap[X]? =some (.cells #[.slice np ns.length nc,.int .i64 (next:Int)] 114 (0,0))):
    Calls Tryz.prog 71 #[.pointer (some ⟨X,0,none⟩),.int .i64 k] w fun e w'=>Kept (fun b=>b=X) w w'∧Below w0.heap.size w0 w'∧NodeEnd X (.slice np ns.length nc) (walkT ns f k next) e w':=by
  rw[walk_stop h f];have HB:=yH hb;have c0:w.cell? ⟨X,0,none⟩=some (.slice np ns.length nc):=cell_plain hw 0;have c1:w.cell? ⟨X,1,none⟩=some (.int .i64 (next:Int)):=cell_plain hw 1
  generalize ns.length=N at c0 h ⊢
  clear hw hb
  by_cases hk:k=(next:Int)
  · subst hk
    have hn2:N≤next:=h.resolve_left fun e=>e rfl;have hn:(N:Int)≤(next:Int):=(by omega);clear h;go_enter Tryz.func71,Tryz.ntmps71;go_wp2_with fail;go_ret;exact⟨Kept.refl _ _,HB.out,rfl⟩
  · have hne:(k !=(next:Int))=true:=by simpa using hk
    clear h hk;go_enter Tryz.func71,Tryz.ntmps71;go_wp2_with fail;go_ret;exact⟨Kept.refl _ _,HB.out,rfl⟩
theorem NsAt.node {w:World} {p:Option Addr} {n0 c:Nat} {ns:List Nd} (h:NsAt w (.slice p n0 c) ns) {i:Nat} {n:Nd} (hn:ns[i]? =some n):∃b o,p=some ⟨b,o,none⟩∧∃kp wp pp ap rp kc wc pc ac rc,
    KidsAt w (.slice kp n.kids.length kc) n.kids∧WsAt w (.slice wp n.words.length wc) n.words∧PatsAt w (.slice pp n.pats.length pc) n.pats∧AsAt w (.slice ap n.assigns.length ac) n.assigns∧AsAt w (.slice rp n.redirs.length rc) n.redirs∧
    w.cell? ⟨b,o+i*7,none⟩=some (.string (T n.op))∧w.cell? ⟨b,o+i*7+1,none⟩=some (.string (T n.name))∧w.cell? ⟨b,o+i*7+2,none⟩=some (.slice kp n.kids.length kc)∧w.cell? ⟨b,o+i*7+3,none⟩=some (.slice wp n.words.length wc)∧w.cell? ⟨b,o+i*7+4,none⟩=some (.slice pp n.pats.length pc)∧w.cell? ⟨b,o+i*7+5,none⟩=some (.slice ap n.assigns.length ac)∧w.cell? ⟨b,o+i*7+6,none⟩=some (.slice rp n.redirs.length rc):=by
  obtain⟨b,o,rfl⟩:=SlAt.ptr h hn;obtain⟨cs,hP,hc⟩:=SlAt.cell h rfl hn;obtain⟨kv,wv,pv,av,rv,rfl,h1,h2,h3,h4,h5⟩:=hP.is;obtain⟨kp,kc,rfl⟩:=KidsAt.is h1;obtain⟨wp,wc,rfl⟩:=WsAt.is h2;obtain⟨pp,pc,rfl⟩:=PatsAt.is h3;obtain⟨ap,ac,rfl⟩:=AsAt.is h4;obtain⟨rp,rc,rfl⟩:=AsAt.is h5;exact⟨b,o,rfl,kp,wp,pp,ap,rp,kc,wc,pc,ac,rc,h1,h2,h3,h4,h5,(by have:=hc 0 _ rfl;rwa [Nat.add_zero]at this),hc 1 _ rfl,hc 2 _ rfl,hc 3 _ rfl,hc 4 _ rfl,hc 5 _ rfl,hc 6 _ rfl⟩
end Go.Proofs.YtcpmjkefbjbhpaaGreatDoor
