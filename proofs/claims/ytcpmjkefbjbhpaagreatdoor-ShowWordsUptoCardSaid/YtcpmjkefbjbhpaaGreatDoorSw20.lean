/-
  Proved: contracts of functions, plain facts. Conditions: as each says.
-/
import Derived.Test.YtcpmjkefbjbhpaaGreatDoorSw14
import Derived.LoopTactic
import Derived.Test.YtcpmjkefbjbhpaaGreatDoorSw19
import Derived.Deep.AppendLies
namespace Go.Proofs.YtcpmjkefbjbhpaaGreatDoor
open Go Go.RowKit GlyphMath LexMath TreeMath
theorem SlAt.cell {w:World} {size:Nat} {α:Type} {P:α→List Value→Prop} {v:Value} {l:List α} (h:SlAt w size α P v l) {b o n c:Nat} (hv:v= .slice (some ⟨b,o,none⟩) n c) {k:Nat} {x:α} (hk:l[k]? =some x):
    ∃cs,P x cs∧∀i u,cs[i]? =some u→w.cell? ⟨b,o+k*size+i,none⟩=some u:=by
  obtain⟨⟨p,c',hv',hx⟩, -⟩:=h;obtain⟨cs,⟨b',o',hp,hc⟩,hP⟩:=hx k x hk;subst hp;rw[hv]at hv';simp only[Value.slice.injEq,Option.some.injEq,Addr.mk.injEq,and_true]at hv';obtain⟨⟨rfl,rfl⟩, -⟩:=hv';exact⟨cs,hP,hc⟩
theorem SlAt.ptr {w:World} {size:Nat} {α:Type} {P:α→List Value→Prop} {p:Option Addr} {n c:Nat} {l:List α} (h:SlAt w size α P (.slice p n c) l) {k:Nat} {x:α} (hk:l[k]? =some x):∃b o,p=some ⟨b,o,none⟩:=by
  obtain⟨⟨p',c',hv',hx⟩, -⟩:=h;obtain⟨cs,⟨b',o',hp,hc⟩,hP⟩:=hx k x hk;subst hp;simp only[Value.slice.injEq]at hv';exact⟨_,_,hv'.1⟩
theorem WsAt.is {w:World} {v:Value} {l:List (List Pt)} (h:WsAt w v l):∃p c,v= .slice p l.length c:=by
  obtain⟨⟨p,c,hv, -⟩, -⟩:=h;exact⟨p,c,hv⟩
theorem PatsAt.is {w:World} {v:Value} {l:List (List (List Pt))} (h:PatsAt w v l):∃p c,v= .slice p l.length c:=by
  obtain⟨⟨p,c,hv, -⟩, -⟩:=h;exact⟨p,c,hv⟩
theorem AsAt.is {w:World} {v:Value} {l:List (List UInt8×List Pt)} (h:AsAt w v l):∃p c,v= .slice p l.length c:=by
  obtain⟨⟨p,c,hv, -⟩, -⟩:=h;exact⟨p,c,hv⟩
theorem KidsAt.is {w:World} {v:Value} {l:List Int} (h:KidsAt w v l):∃p c,v= .slice p l.length c:=by
  obtain⟨⟨p,c,hv, -⟩, -⟩:=h;exact⟨p,c,hv⟩
set_option maxRecDepth 100000 in
theorem assign_any (a:List UInt8×List Pt) (u:Value) (w:World) (hu:PsAt w u a.2) (hs:Small a.2):
    Calls Tryz.prog 154 #[.agg #[txt a.1,u]] w fun e w'=>e= .returned (.bool (assignT a))∧Below w.heap.size w w':=by
  obtain⟨n,ps⟩:=a;obtain⟨p,c,rfl, -, -⟩:=hu.is;have HB:=yH (fun o=>below_one w o);have HW:=yH (fun W (hb:Below w.heap.size w W)=>word_any ps _ W (hu.stays hb) hs);have HN:=yH (fun W=>name_any (T n) W);have HR:=yH (show assignT (n,ps)=(nameL (letters (T n))&&wordT ps)from rfl);obtain⟨R,hR⟩:∃R,assignT (n,ps)=R:=⟨_,rfl⟩;rw[hR]at HR ⊢;show Calls _ _ #[.agg #[.string (T n),.slice p ps.length c]] _ _;unfold wordV at HW
  generalize ps.length=L at HW ⊢
  obtain⟨A,hA⟩:∃A,nameL (letters (T n))=A:=⟨_,rfl⟩;obtain⟨B,hB⟩:∃B,wordT ps=B:=⟨_,rfl⟩;rw[hA]at HN HR;rw[hB]at HR HW
  generalize T n=s at HN ⊢
  have hc:=heap_alloc_new w (.cells #[.string s,.slice p L c] 144);have h0:=cell_plain hc 0;have h1:(w.alloc (.cells #[.string s,.slice p L c] 144)).cell? ⟨w.heap.size,1,none⟩=some (.slice p L c):=cell_plain hc 1;have H1:=yH h1;clear hR hA hB hu hs hc h0 h1
  cases A
  all_goals
    go_enter Tryz.func154,Tryz.ntmps154
    go_wp2_with (first
      |(go_at_call 148;refine(HN.out _).mono ?_;rintro e w1 ⟨rfl,hb⟩;have hx:=cell_below H1.out hb;have HB1:=yH ((HB.out _).trans (hb.mono (HB.out _).size));clear hb)
      |(go_at_call 37;refine(HW.out _ HB1.out).mono ?_;rintro e w2 ⟨rfl,hb⟩;have HB2:=yH (HB1.out.trans (hb.mono HB1.out.size));clear hb))
    go_ret
    first|exact⟨ret_bool HR.out.symm,HB2.out⟩|exact⟨ret_bool HR.out.symm,HB1.out⟩
set_option maxRecDepth 100000 in
theorem redir_any (a:List UInt8×List Pt) (u:Value) (w:World) (hu:PsAt w u a.2) (hs:Small a.2):
    Calls Tryz.prog 156 #[.agg #[txt a.1,u]] w fun e w'=>e= .returned (.bool (redirT a))∧Below w.heap.size w w':=by
  obtain⟨n,ps⟩:=a;obtain⟨p,c,rfl, -, -⟩:=hu.is;have HB:=yH (fun o=>below_one w o);have HW:=yH (fun W (hb:Below w.heap.size w W)=>bare_any ps _ W (hu.stays hb) hs);have HR:=yH (show redirT (n,ps)=((n== [60]||(n== [62]||n== [62,62]))&&bareW ps)from rfl);obtain⟨R,hR⟩:∃R,redirT (n,ps)=R:=⟨_,rfl⟩;rw[hR]at HR ⊢;show Calls _ _ #[.agg #[.string (T n),.slice p ps.length c]] _ _;unfold wordV at HW
  generalize ps.length=L at HW ⊢
  obtain⟨B,hB⟩:∃B,bareW ps=B:=⟨_,rfl⟩;rw[hB]at HR HW;obtain⟨o,ho⟩:∃o,T n=o:=⟨_,rfl⟩;have hl:o.toList=n:=(by rw[←ho,Lib.toList_data]);rw[ho];rw[←hl]at HR;obtain⟨x,hx⟩:∃x,(o.toList== [60])=x:=⟨_,rfl⟩;obtain⟨y,hy⟩:∃x,(o.toList== [62])=x:=⟨_,rfl⟩;obtain⟨z,hz⟩:∃x,(o.toList== [62,62])=x:=⟨_,rfl⟩;rw[hx,hy,hz]at HR;clear hR hB hu hs ho hl
  cases x<;>cases y<;>cases z
  all_goals
    go_enter Tryz.func156,Tryz.ntmps156
    go_wp2_with (go_at_call 150;refine(HW.out _ (HB.out _)).mono ?_;rintro e w2 ⟨rfl,hb⟩;have HB2:=yH ((HB.out _).trans (hb.mono (HB.out _).size));clear hb)
    go_ret
    first|exact⟨ret_bool HR.out.symm,HB2.out⟩|exact⟨ret_bool HR.out.symm,HB.out _⟩
set_option maxHeartbeats 1000000 in
set_option maxRecDepth 100000 in
theorem allw_any (l:List (List Pt)) (v:Value) (w:World) (hv:WsAt w v l) (hs:∀x∈l,Small x):
    Calls Tryz.prog 149 #[v,.func (.func 150) #[] #[]] w fun e w'=>e= .returned (.bool (l.all bareW))∧Below w.heap.size w w':=by
  have HV:=yH hv;have HS:=yH hs;obtain⟨p,c,rfl⟩:=WsAt.is hv;have hfew:=hv.few;obtain⟨R,hR⟩:∃R,l.all bareW=R:=⟨_,rfl⟩;have HR:=yH hR;obtain⟨N,hN⟩:∃N,l.length=N:=⟨_,rfl⟩;have HN:=yH hN;have hN0:(N:Int)≤2^63-1:=(by unfold maxLen at hfew;omega);rw[hR];rw[hN]at HV ⊢;clear hv hs hR hN hfew;go_enter Tryz.func149,Tryz.ntmps149;go_wp2_with fail
  go_loopw [9] (fun i wr=> ∃j,j≤N∧i= .int .i64 (j:Int)∧Below w.heap.size w wr∧(l.drop j).all bareW=R) (fun i _=>N-(intOf i).toNat)
  case atStart=>exact⟨0,by omega,rfl,Below.refl _ _,HR.out⟩
  case round=>
    obtain⟨j,hj,rfl,hb,hsd⟩:=hrel
    by_cases hlt:j<N
    · obtain⟨x,hx⟩:∃x,l[j]? =some x:=⟨_,List.getElem?_eq_getElem (by rw[HN.out];exact hlt)⟩
      obtain⟨b,o,rfl⟩:=SlAt.ptr HV.out hx;obtain⟨cs,⟨u,rfl,hu⟩,hc⟩:=SlAt.cell HV.out rfl hx;have hj0:(j:Int)<(N:Int):=(by omega);have HSX:=yH (HS.out x (List.mem_of_getElem? hx));rw[drop_get hx,List.all_cons]at hsd;have HSD:=yH hsd;have HB:=yH hb;have HJ:=yH hlt
      have c0:wr.cell? ⟨b,o+j,none⟩=some u:=by
        have:=cell_below (hc 0 _ rfl) hb
        rwa [show o+j*1+0=o+j by omega]at this
      obtain⟨up,uc,rfl, -, -⟩:=hu.is;have HE:=yH (bare_any x (.slice up x.length uc) (wr.alloc (.cells #[.slice up x.length uc] 45)) (hu.stays (hb.trans ((below_one _ _).mono hb.size))) HSX.out);unfold wordV at HE;obtain⟨ul,hul⟩:∃ul,x.length=ul:=⟨_,rfl⟩;rw[hul]at HE c0;clear hul;clear hsd hb hlt hj hx hc hu;obtain⟨P,hP⟩:∃P,bareW x=P:=⟨_,rfl⟩;rw[hP]at HE HSD;clear hP
      cases P
      · have HF:=yH (show false=R from HSD.out)
        go_wp2_with (go_at_call 150;refine HE.out.mono ?_;rintro e w2 ⟨rfl,hb2⟩;have HB2:=yH hb2;clear hb2)
        go_ret;exact⟨ret_bool HF.out,HB.out.trans (((below_one _ _).trans (HB2.out.mono (below_one _ _).size)).mono HB.out.size)⟩
      · have HF:=yH (show(l.drop (j+1)).all bareW=R from HSD.out)
        go_wp2_with (go_at_call 150;refine HE.out.mono ?_;rintro e w2 ⟨rfl,hb2⟩;have HB2:=yH hb2;clear hb2)
        exact⟨⟨j+1,by have:=HJ.out;omega,by go_num,HB.out.trans (((below_one _ _).trans (HB2.out.mono (below_one _ _).size)).mono HB.out.size),HF.out⟩,by have:=HJ.out;simp[intOf];omega⟩
    · obtain rfl:j=N:=by omega
      have hj0:¬(j:Int)<(j:Int):=(by omega);rw[List.drop_of_length_le (by rw[HN.out];exact Nat.le_refl _)]at hsd;have HE:=yH (show true=R from hsd);have HB:=yH hb;clear hsd hb hlt hj;go_wp2_with fail;go_ret;exact⟨ret_bool HE.out,HB.out⟩
set_option maxRecDepth 100000 in
theorem pattern_any (l:List (List Pt)) (v:Value) (w:World) (hv:WsAt w v l) (hs:∀x∈l,Small x):
    Calls Tryz.prog 152 #[v] w fun e w'=>e= .returned (.bool (patT l))∧Below w.heap.size w w':=by
  have HA:=yH (allw_any l v w hv hs);obtain⟨p,c,rfl⟩:=WsAt.is hv;have HR:=yH (show patT l=(!l.isEmpty&&l.all bareW)from rfl)
  have hpos:decide ((0:Int)<(l.length:Int))= !l.isEmpty:=by
    cases l with
    |nil=>rfl
    |cons a r=>exact decide_eq_true (by rw[List.length_cons];omega)
  obtain⟨R,hR⟩:∃R,patT l=R:=⟨_,rfl⟩;rw[hR]at HR ⊢
  generalize l.isEmpty=E at hpos HR
  generalize l.length=L at hpos HA ⊢
  generalize l.all bareW=B at HA HR
  clear hR hv hs
  cases E with
  |true=>
    have hn:¬(0:Int)<(L:Int):=of_decide_eq_false hpos;clear hpos;go_enter Tryz.func152,Tryz.ntmps152;go_wp2_with fail;go_ret;exact⟨ret_bool HR.out.symm,Below.refl _ _⟩
  |false=>
    have hn:(0:Int)<(L:Int):=of_decide_eq_true hpos;clear hpos;go_enter Tryz.func152,Tryz.ntmps152
    go_wp2_with (go_at_call 149;refine HA.out.mono ?_;rintro e w1 ⟨rfl,hb⟩;have HB1:=yH hb;clear hb)
    go_ret;exact⟨ret_bool HR.out.symm,HB1.out⟩
set_option maxHeartbeats 1000000 in
set_option maxRecDepth 100000 in
theorem allp_any (l:List (List (List Pt))) (v:Value) (w:World) (hv:PatsAt w v l) (hs:∀x∈l,∀y∈x,Small y):
    Calls Tryz.prog 151 #[v,.func (.func 152) #[] #[]] w fun e w'=>e= .returned (.bool (l.all patT))∧Below w.heap.size w w':=by
  have HV:=yH hv;have HS:=yH hs;obtain⟨p,c,rfl⟩:=PatsAt.is hv;have hfew:=hv.few;obtain⟨R,hR⟩:∃R,l.all patT=R:=⟨_,rfl⟩;have HR:=yH hR;obtain⟨N,hN⟩:∃N,l.length=N:=⟨_,rfl⟩;have HN:=yH hN;have hN0:(N:Int)≤2^63-1:=(by unfold maxLen at hfew;omega);rw[hR];rw[hN]at HV ⊢;clear hv hs hR hN hfew;go_enter Tryz.func151,Tryz.ntmps151;go_wp2_with fail
  go_loopw [9] (fun i wr=> ∃j,j≤N∧i= .int .i64 (j:Int)∧Below w.heap.size w wr∧(l.drop j).all patT=R) (fun i _=>N-(intOf i).toNat)
  case atStart=>exact⟨0,by omega,rfl,Below.refl _ _,HR.out⟩
  case round=>
    obtain⟨j,hj,rfl,hb,hsd⟩:=hrel
    by_cases hlt:j<N
    · obtain⟨x,hx⟩:∃x,l[j]? =some x:=⟨_,List.getElem?_eq_getElem (by rw[HN.out];exact hlt)⟩
      obtain⟨b,o,rfl⟩:=SlAt.ptr HV.out hx;obtain⟨cs,⟨u,rfl,hu⟩,hc⟩:=SlAt.cell HV.out rfl hx;have hj0:(j:Int)<(N:Int):=(by omega);have HSX:=yH (HS.out x (List.mem_of_getElem? hx));rw[drop_get hx,List.all_cons]at hsd;have HSD:=yH hsd;have HB:=yH hb;have HJ:=yH hlt
      have c0:wr.cell? ⟨b,o+j,none⟩=some u:=by
        have:=cell_below (hc 0 _ rfl) hb
        rwa [show o+j*1+0=o+j by omega]at this
      obtain⟨up,uc,rfl⟩:=WsAt.is hu;have HE:=yH (pattern_any x (.slice up x.length uc) wr (WsAt.below hu hb) HSX.out);obtain⟨ul,hul⟩:∃ul,x.length=ul:=⟨_,rfl⟩;rw[hul]at HE c0;clear hul;clear hsd hb hlt hj hx hc hu;obtain⟨P,hP⟩:∃P,patT x=P:=⟨_,rfl⟩;rw[hP]at HE HSD;clear hP
      cases P
      · have HF:=yH (show false=R from HSD.out)
        go_wp2_with (go_at_call 152;refine HE.out.mono ?_;rintro e w2 ⟨rfl,hb2⟩;have HB2:=yH hb2;clear hb2)
        go_ret;exact⟨ret_bool HF.out,HB.out.trans (HB2.out.mono HB.out.size)⟩
      · have HF:=yH (show(l.drop (j+1)).all patT=R from HSD.out)
        go_wp2_with (go_at_call 152;refine HE.out.mono ?_;rintro e w2 ⟨rfl,hb2⟩;have HB2:=yH hb2;clear hb2)
        exact⟨⟨j+1,by have:=HJ.out;omega,by go_num,HB.out.trans (HB2.out.mono HB.out.size),HF.out⟩,by have:=HJ.out;simp[intOf];omega⟩
    · obtain rfl:j=N:=by omega
      have hj0:¬(j:Int)<(j:Int):=(by omega);rw[List.drop_of_length_le (by rw[HN.out];exact Nat.le_refl _)]at hsd;have HE:=yH (show true=R from hsd);have HB:=yH hb;clear hsd hb hlt hj;go_wp2_with fail;go_ret;exact⟨ret_bool HE.out,HB.out⟩
set_option maxHeartbeats 1000000 in
set_option maxRecDepth 100000 in
theorem alla_any (l:List (List UInt8×List Pt)) (v:Value) (w:World) (hv:AsAt w v l) (hs:∀x∈l,Small x.2):
    Calls Tryz.prog 153 #[v,.func (.func 154) #[] #[]] w fun e w'=>e= .returned (.bool (l.all assignT))∧Below w.heap.size w w':=by
  have HV:=yH hv;have HS:=yH hs;obtain⟨p,c,rfl⟩:=AsAt.is hv;have hfew:=hv.few;obtain⟨R,hR⟩:∃R,l.all assignT=R:=⟨_,rfl⟩;have HR:=yH hR;obtain⟨N,hN⟩:∃N,l.length=N:=⟨_,rfl⟩;have HN:=yH hN;have hN0:(N:Int)≤2^63-1:=(by unfold maxLen at hfew;omega);rw[hR];rw[hN]at HV ⊢;clear hv hs hR hN hfew;go_enter Tryz.func153,Tryz.ntmps153;go_wp2_with fail
  go_loopw [9] (fun i wr=> ∃j,j≤N∧i= .int .i64 (j:Int)∧Below w.heap.size w wr∧(l.drop j).all assignT=R) (fun i _=>N-(intOf i).toNat)
  case atStart=>exact⟨0,by omega,rfl,Below.refl _ _,HR.out⟩
  case round=>
    obtain⟨j,hj,rfl,hb,hsd⟩:=hrel
    by_cases hlt:j<N
    · obtain⟨x,hx⟩:∃x,l[j]? =some x:=⟨_,List.getElem?_eq_getElem (by rw[HN.out];exact hlt)⟩
      obtain⟨b,o,rfl⟩:=SlAt.ptr HV.out hx;obtain⟨cs,⟨u,rfl,hu⟩,hc⟩:=SlAt.cell HV.out rfl hx;have hj0:(j:Int)<(N:Int):=(by omega);have HSX:=yH (HS.out x (List.mem_of_getElem? hx));rw[drop_get hx,List.all_cons]at hsd;have HSD:=yH hsd;have HB:=yH hb;have HJ:=yH hlt
      have c0:wr.cell? ⟨b,o+j*2,none⟩=some (.string (T x.1)):=by
        have:=cell_below (hc 0 _ rfl) hb
        rwa [show o+j*2+0=o+j*2 by omega]at this
      have c1:wr.cell? ⟨b,o+j*2+1,none⟩=some u:=cell_below (hc 1 _ rfl) hb;obtain⟨up,uc,rfl, -, -⟩:=hu.is;obtain⟨s,hss⟩:∃s,T x.1=s:=⟨_,rfl⟩
      have HE:=yH (show Calls Tryz.prog 154 #[.agg #[.string s,.slice up x.2.length uc]] (wr.alloc (.cells #[.string s,.slice up x.2.length uc] 144)) fun e w'=>e= .returned (.bool (assignT x))∧Below (wr.alloc (.cells #[.string s,.slice up x.2.length uc] 144)).heap.size (wr.alloc (.cells #[.string s,.slice up x.2.length uc] 144)) w' from by
        rw[←hss]
        exact assign_any x (.slice up x.2.length uc) _ (hu.stays (hb.trans ((below_one _ _).mono hb.size))) HSX.out)
      obtain⟨ul,hul⟩:∃ul,x.2.length=ul:=⟨_,rfl⟩;rw[hul]at HE c1;rw[hss]at c0;clear hul hss;clear hsd hb hlt hj hx hc hu;obtain⟨P,hP⟩:∃P,assignT x=P:=⟨_,rfl⟩;rw[hP]at HE HSD;clear hP
      cases P
      · have HF:=yH (show false=R from HSD.out)
        go_wp2_with (go_at_call 154;refine HE.out.mono ?_;rintro e w2 ⟨rfl,hb2⟩;have HB2:=yH hb2;clear hb2)
        go_ret;exact⟨ret_bool HF.out,HB.out.trans (((below_one _ _).trans (HB2.out.mono (below_one _ _).size)).mono HB.out.size)⟩
      · have HF:=yH (show(l.drop (j+1)).all assignT=R from HSD.out)
        go_wp2_with (go_at_call 154;refine HE.out.mono ?_;rintro e w2 ⟨rfl,hb2⟩;have HB2:=yH hb2;clear hb2)
        exact⟨⟨j+1,by have:=HJ.out;omega,by go_num,HB.out.trans (((below_one _ _).trans (HB2.out.mono (below_one _ _).size)).mono HB.out.size),HF.out⟩,by have:=HJ.out;simp[intOf];omega⟩
    · obtain rfl:j=N:=by omega
      have hj0:¬(j:Int)<(j:Int):=(by omega);rw[List.drop_of_length_le (by rw[HN.out];exact Nat.le_refl _)]at hsd;have HE:=yH (show true=R from hsd);have HB:=yH hb;clear hsd hb hlt hj;go_wp2_with fail;go_ret;exact⟨ret_bool HE.out,HB.out⟩
set_option maxHeartbeats 1000000 in
set_option maxRecDepth 100000 in
theorem allr_any (l:List (List UInt8×List Pt)) (v:Value) (w:World) (hv:AsAt w v l) (hs:∀x∈l,Small x.2):
    Calls Tryz.prog 155 #[v,.func (.func 156) #[] #[]] w fun e w'=>e= .returned (.bool (l.all redirT))∧Below w.heap.size w w':=by
  have HV:=yH hv;have HS:=yH hs;obtain⟨p,c,rfl⟩:=AsAt.is hv;have hfew:=hv.few;obtain⟨R,hR⟩:∃R,l.all redirT=R:=⟨_,rfl⟩;have HR:=yH hR;obtain⟨N,hN⟩:∃N,l.length=N:=⟨_,rfl⟩;have HN:=yH hN;have hN0:(N:Int)≤2^63-1:=(by unfold maxLen at hfew;omega);rw[hR];rw[hN]at HV ⊢;clear hv hs hR hN hfew;go_enter Tryz.func155,Tryz.ntmps155;go_wp2_with fail
  go_loopw [9] (fun i wr=> ∃j,j≤N∧i= .int .i64 (j:Int)∧Below w.heap.size w wr∧(l.drop j).all redirT=R) (fun i _=>N-(intOf i).toNat)
  case atStart=>exact⟨0,by omega,rfl,Below.refl _ _,HR.out⟩
  case round=>
    obtain⟨j,hj,rfl,hb,hsd⟩:=hrel
    by_cases hlt:j<N
    · obtain⟨x,hx⟩:∃x,l[j]? =some x:=⟨_,List.getElem?_eq_getElem (by rw[HN.out];exact hlt)⟩
      obtain⟨b,o,rfl⟩:=SlAt.ptr HV.out hx;obtain⟨cs,⟨u,rfl,hu⟩,hc⟩:=SlAt.cell HV.out rfl hx;have hj0:(j:Int)<(N:Int):=(by omega);have HSX:=yH (HS.out x (List.mem_of_getElem? hx));rw[drop_get hx,List.all_cons]at hsd;have HSD:=yH hsd;have HB:=yH hb;have HJ:=yH hlt
      have c0:wr.cell? ⟨b,o+j*2,none⟩=some (.string (T x.1)):=by
        have:=cell_below (hc 0 _ rfl) hb
        rwa [show o+j*2+0=o+j*2 by omega]at this
      have c1:wr.cell? ⟨b,o+j*2+1,none⟩=some u:=cell_below (hc 1 _ rfl) hb;obtain⟨up,uc,rfl, -, -⟩:=hu.is;obtain⟨s,hss⟩:∃s,T x.1=s:=⟨_,rfl⟩
      have HE:=yH (show Calls Tryz.prog 156 #[.agg #[.string s,.slice up x.2.length uc]] (wr.alloc (.cells #[.string s,.slice up x.2.length uc] 125)) fun e w'=>e= .returned (.bool (redirT x))∧Below (wr.alloc (.cells #[.string s,.slice up x.2.length uc] 125)).heap.size (wr.alloc (.cells #[.string s,.slice up x.2.length uc] 125)) w' from by
        rw[←hss]
        exact redir_any x (.slice up x.2.length uc) _ (hu.stays (hb.trans ((below_one _ _).mono hb.size))) HSX.out)
      obtain⟨ul,hul⟩:∃ul,x.2.length=ul:=⟨_,rfl⟩;rw[hul]at HE c1;rw[hss]at c0;clear hul hss;clear hsd hb hlt hj hx hc hu;obtain⟨P,hP⟩:∃P,redirT x=P:=⟨_,rfl⟩;rw[hP]at HE HSD;clear hP
      cases P
      · have HF:=yH (show false=R from HSD.out)
        go_wp2_with (go_at_call 156;refine HE.out.mono ?_;rintro e w2 ⟨rfl,hb2⟩;have HB2:=yH hb2;clear hb2)
        go_ret;exact⟨ret_bool HF.out,HB.out.trans (((below_one _ _).trans (HB2.out.mono (below_one _ _).size)).mono HB.out.size)⟩
      · have HF:=yH (show(l.drop (j+1)).all redirT=R from HSD.out)
        go_wp2_with (go_at_call 156;refine HE.out.mono ?_;rintro e w2 ⟨rfl,hb2⟩;have HB2:=yH hb2;clear hb2)
        exact⟨⟨j+1,by have:=HJ.out;omega,by go_num,HB.out.trans (((below_one _ _).trans (HB2.out.mono (below_one _ _).size)).mono HB.out.size),HF.out⟩,by have:=HJ.out;simp[intOf];omega⟩
    · obtain rfl:j=N:=by omega
      have hj0:¬(j:Int)<(j:Int):=(by omega);rw[List.drop_of_length_le (by rw[HN.out];exact Nat.le_refl _)]at hsd;have HE:=yH (show true=R from hsd);have HB:=yH hb;clear hsd hb hlt hj;go_wp2_with fail;go_ret;exact⟨ret_bool HE.out,HB.out⟩
set_option maxHeartbeats 1000000 in
theorem reserved_any (l:List UInt8) (w:World):
    Calls Tryz.prog 147 #[.string (T l)] w fun e w'=>e= .returned (.bool (reservedT l))∧w=w':=by
  obtain⟨o,ho⟩:∃o,T l=o:=⟨_,rfl⟩;have hl:o.toList=l:=(by rw[←ho,Lib.toList_data]);rw[ho,←hl];clear ho hl;obtain⟨R,hR⟩:∃R,reservedT o.toList=R:=⟨_,rfl⟩;have HR:=yH hR;rw[hR];clear hR;go_enter Tryz.func147,Tryz.ntmps147;go_wp2_with fail
  all_goals
    go_ret;refine⟨ret_bool ?_,rfl⟩;rw[←HR.out]
    first
      |(simp only[reservedT,reservedL,List.contains_cons,List.contains_nil,Bool.or_false,Bool.true_or,Bool.false_or, *];done)
      |(simp_all;done)
def countV (a b:Int):Value:= .agg #[.int .i64 a,.int .i64 b]
theorem has_any (a b n:Int) (w:World):
    Calls Tryz.prog 182 #[countV a b,.int .i64 n] w fun e w'=>e= .returned (.bool (hasT a b n))∧Below w.heap.size w w':=by
  have HB:=yH (fun o=>below_one w o);unfold countV
  by_cases h:a≤n
  · have HR:=yH (show hasT a b n=decide (n≤b) by unfold hasT;rw[decide_eq_true h,Bool.true_and])
    rw[HR.out];go_enter Tryz.func182,Tryz.ntmps182;go_wp2_with fail;go_ret;exact⟨rfl,HB.out _⟩
  · have HR:=yH (show hasT a b n=false by unfold hasT;rw[decide_eq_false h,Bool.false_and])
    rw[HR.out];go_enter Tryz.func182,Tryz.ntmps182;go_wp2_with fail;go_ret;exact⟨rfl,HB.out _⟩
def shapeV (s:Sh):Value:= .agg #[txt s.op,.int .i64 s.k0,.int .i64 s.k1,.int .i64 s.w0,.int .i64 s.w1,.bool s.name,.bool s.pats,.bool s.assigns,.bool s.redirs]
theorem nat_beq (a b:Nat):((a:Int)==(b:Int))=(a==b):=by
  by_cases h:a=b
  · subst h;simp
  · have h1:(a==b)=false:=by simpa using h
    rw[h1];exact int_ne (by omega)
def NV (n:Nd) (kp wp pp ap rp:Option Addr) (kc wc pc ac rc:Nat):Value:=nodeV n (.slice kp n.kids.length kc) (.slice wp n.words.length wc) (.slice pp n.pats.length pc) (.slice ap n.assigns.length ac) (.slice rp n.redirs.length rc)
def SC (W:World) (b:Nat) (cs ds:List Value):Prop:=(∀i u,cs[i]? =some u→W.cell? ⟨b,i,none⟩=some u)∧(∀i u,ds[i]? =some u→W.cell? ⟨b+1,i,none⟩=some u)
theorem SC.below {w w':World} {b:Nat} {cs ds:List Value} (h:SC w b cs ds) (hb:Below w.heap.size w w'):SC w' b cs ds:=⟨fun i u hu=>cell_below (h.1 i u hu) hb,fun i u hu=>cell_below (h.2 i u hu) hb⟩
theorem SC.new (w:World) (cs ds:List Value) (t s:TypeId):SC ((w.alloc (.cells cs.toArray t)).alloc (.cells ds.toArray s)) w.heap.size cs ds:=by
  have h1:=heap_alloc_new w (.cells cs.toArray t);have h2:=heap_alloc_new (w.alloc (.cells cs.toArray t)) (.cells ds.toArray s);refine⟨fun i u hu=> ?_,fun i u hu=> ?_⟩
  · refine cell_below ?_ (below_one _ _)
    rw[cell_plain h1]
    simpa using hu
  · rw[World.size_alloc]at h2
    rw[cell_plain h2]
    simpa using hu
end Go.Proofs.YtcpmjkefbjbhpaaGreatDoor
namespace Go.Proofs.YtcpmjkefbjbhpaaGreatDoor
open Go Go.RowKit GlyphMath LexMath TreeMath ParseMath
theorem below_new (w:World) (o:Obj):Below w.heap.size w (w.alloc o):=(Below.refl _ w).alloc (Nat.le_refl _) _
theorem word_info:(Tryz.prog.info? 45).map (·.size)=some 1:=by kernel_rfl
theorem ret_word {fn:Func} {p:Tmp} (hf:fn.results= #[.cell p 45]) {tmps:Array Value} {k:Nat} {a:Value} {w:World} {t:TypeId} {fr:Nat×Nat} (h:w.heap[k]? =some (.cells #[a] t fr)) (h2:tmps.getD p undef= .pointer (some ⟨k,0,none⟩)):
    (results fn tmps).run Tryz.prog w= .ok (.agg #[a]) w:=results_cell_row hf tmps w k t #[a] fr _ h2 h Tryz.underlying45 rfl word_info
theorem redir_info:(Tryz.prog.info? 125).map (·.size)=some 2:=by kernel_rfl
def ofC (o:ByteArray) (v:Value):List Value:= [.string o,.string ⟨#[]⟩,.slice none 0 0,.slice none 0 0,.slice none 0 0,.slice none 0 0,.slice none 0 0,v]
def zeroN:List Value:=ofC ⟨#[]⟩ (.slice none 0 0)
theorem ofC_cel (o:ByteArray) (p:Option Addr) (n c:Nat):Cel 8 (ofC o (.slice p n c)):=⟨rfl,fun v hv=>by
  simp only[ofC,List.mem_cons,List.not_mem_nil,or_false]at hv
  rcases hv with rfl|rfl|rfl|rfl|rfl|rfl|rfl|rfl<;>rfl⟩
theorem ndc_of (w:World) (op:List UInt8):NdC w { nd0 with op:=op } [txt op,txt [],.slice none 0 0,.slice none 0 0,.slice none 0 0,.slice none 0 0,.slice none 0 0]:=
  ⟨rfl,_,_,_,_,rfl,SlAt.nil _ _ _ _,SlAt.nil _ _ _ _,SlAt.nil _ _ _ _,SlAt.nil _ _ _ _⟩
structure ElT (t e sz bytes:Nat):Prop where
  und:Tryz.prog.underlying t=some (.slice e)
  info:∃i z,Tryz.prog.info? e=some i∧i.zero=some z∧i.size=sz∧i.bytes=bytes∧z.cells.size=sz
  pos:0<sz
  small:sz≤100∧bytes≤1000
theorem elT_of {t e sz bytes:Nat} {z:Value} (hu:Tryz.prog.underlying t=some (.slice e)) (hi:(Tryz.prog.info? e).map (fun i=>(i.zero,i.size,i.bytes))=some (some z,sz,bytes)) (hz:z.cells.size=sz) (hp:0<sz) (hs:sz≤100∧bytes≤1000):ElT t e sz bytes:=by
  obtain⟨i,h1,h2,h3,h4⟩:=info_parts hi;exact⟨hu,⟨i,z,h1,h2,h3,h4,hz⟩,hp,hs⟩
theorem elWord:ElT 36 45 1 24:=elT_of (z:= .agg #[.slice none 0 0]) Tryz.underlying36 (by kernel_rfl) rfl (by decide) (by decide)
theorem elRedir:ElT 39 125 2 40:=elT_of (z:= .agg #[.string ⟨#[]⟩,.slice none 0 0]) Tryz.underlying39 (by kernel_rfl) rfl (by decide) (by decide)
theorem elAssign:ElT 38 144 2 40:=elT_of (z:= .agg #[.string ⟨#[]⟩,.slice none 0 0]) Tryz.underlying38 (by kernel_rfl) rfl (by decide) (by decide)
theorem elPart:ElT 43 55 5 72:=elT_of (z:= .agg #[.int .i64 0,.string ⟨#[]⟩,.string ⟨#[]⟩,.slice none 0 0,.bool false]) Tryz.underlying43 (by kernel_rfl) rfl (by decide) (by decide)
theorem fill_one {sz:Nat} (hs:0<sz) (v:Value) (zs:Array Value) (cs:List Value) (hv:v.cells=cs.toArray) (hc:cs.length=sz) (hz:zs.size=sz):Instr.fill (fun i=>some (i*sz,sz)) zs [(0,v)]=some cs.toArray:=by
  have h:=Great.fill_whole hs [v] zs (fun u hu=>by
    have hu:u=v:=(by simpa using hu);rw[hu,hv]
    simp[hc]) (by simp[hz])
  simp only[List.zipIdx_cons,List.zipIdx_nil,List.map_cons,List.map_nil,List.flatMap_cons,List.flatMap_nil,List.append_nil,hv]at h;exact h
section
variable {t e sz bytes : Nat} (hT : ElT t e sz bytes)
include hT
theorem wpList_one {ops:Array Oper} {rest:List Oper} {o:Oper} {a:Act} {w:World} {Q:Exit→Act→World→Prop} (hg:o.guard=none) (x:Operand) (ho:o.op= .buildSlice t 1 #[(0,x)]) (v:Value) (cs:List Value) (hv:v.cells=cs.toArray) (hc:Cel sz cs) (hx:a.eval x=v)
    (h:wpList Tryz.prog ops Q rest (a.put o.dst (.slice (some ⟨w.heap.size,0,none⟩) 1 1)) (w.alloc (.cells cs.toArray e))):wpList Tryz.prog ops Q (o::rest) a w:=by
  obtain⟨i,z,h1,h2,h3,h4,h5⟩:=hT.info;have hp:=hT.pos;have hs:=hT.small;refine wpList_buildSlice hg t e 1 #[(0,x)] ho cs.toArray i z hT.und h1 h2 (by rw[h3];omega) (by rw[h3];omega) ?_ h;rw[h3];rw[show (#[(0,x)].map fun (i,x)=>(i,a.eval x)).toList= [(0,v)] by simp[hx]];exact fill_one hp v _ cs hv hc.1 (by simp)
theorem wp_one {o:Oper} {a:Act} {w:World} {K:Act→World→Prop} {Q:Exit→Act→World→Prop} (x:Operand) (ho:o.op= .buildSlice t 1 #[(0,x)]) (v:Value) (cs:List Value) (hv:v.cells=cs.toArray) (hc:Cel sz cs) (hx:a.eval x=v)
    (h:K (a.put o.dst (.slice (some ⟨w.heap.size,0,none⟩) 1 1)) (w.alloc (.cells cs.toArray e))):o.wp Tryz.prog a w K Q:=by
  obtain⟨i,z,h1,h2,h3,h4,h5⟩:=hT.info;have hp:=hT.pos;have hs:=hT.small;refine wp_buildSlice t e 1 #[(0,x)] ho cs.toArray i z hT.und h1 h2 (by rw[h3];omega) (by rw[h3];omega) ?_ h;rw[h3];rw[show (#[(0,x)].map fun (i,x)=>(i,a.eval x)).toList= [(0,v)] by simp[hx]];exact fill_one hp v _ cs hv hc.1 (by simp)
theorem wp_push {α:Type} {P:World→List Value→α→Prop} {o:Oper} {a:Act} {K:Act→World→Prop} {Q:Exit→Act→World→Prop} (s x:Operand)
    (ho:o.op= .call { callee:= .builtin .append,args:= #[s,x],argTypes:= #[t,t] }) {w0 w:World} {B C c:Nat} {p:Option Addr} {css:List (List Value)} {l:List α} {F:Nat→Prop} {cs:List Value} {y:α}
    (hr:RowG w0 w e sz P B (.slice p l.length c) css l F) (hcs:Cel sz cs) (hy:NewAt w0 w C fun W=>P W cs y) (hB:B≤C) (hC:∀k,(Value.slice p l.length c).ownBlock=some k→k<C) (hl:l.length≤100000)
    (hs:a.eval s= .slice p l.length c) (hx:a.eval x= .slice (some ⟨w.heap.size,0,none⟩) 1 1) (hBw:B≤w.heap.size)
    (h:∀p' c' F' w',RowG w0 w' e sz P B (.slice p' (l.length+1) c') (css++ [cs]) (l++ [y]) F'→(∀k,F' k→F k∨(C≤k∧k<w.heap.size))→((Value.slice p' (l.length+1) c').ownBlock=(Value.slice p l.length c).ownBlock∨∀k,(Value.slice p' (l.length+1) c').ownBlock=some k→w.heap.size≤k)→
      Kept (fun k=>(Value.slice p l.length c).ownBlock=some k) w w'→K (a.put o.dst (.slice p' (l.length+1) c')) w'):
    o.wp Tryz.prog a (w.alloc (.cells cs.toArray e)) K Q:=by
  obtain⟨i,z,h1,h2,h3,h4,h5⟩:=hT.info;have hsm:=hT.small;have hm:(l.length+1)*bytes≤100001*1000:=Nat.mul_le_mul (by omega) hsm.2;have hsz:(w.alloc (.cells cs.toArray e)).heap.size=w.heap.size+1:=(by simp);refine wp_append_lies _ s x t ho B e i z sz bytes hT.und h1 h2 h3 h4 h5 hT.pos (.slice p l.length c) l.length css.flatten hs (hr.own.alloc _) ⟨w.heap.size,0,none⟩ 1 1 cs hx (by rw[hcs.1];omega) (fun j u hu=>World.news_of_block (heap_alloc_new w _) j u (by simpa using hu)) hcs.2 (by omega) (by unfold maxLen;omega) (by omega) (by rw[hsz];omega) (w.heap.size+1) hsz ?_;intro g cap w' hown hgrow hat hlt;obtain⟨F',hF,hF'⟩:=hr.add hcs hy hB hC (w1:=w.alloc (.cells cs.toArray e)) ((Kept.of_below (below_new w _))) hown hgrow (hat.imp id fun e=>by omega);refine h _ _ F' w' hF hF' (hat.imp (fun e=>e.symm) fun e k hk=> ?_) ?_
  · have e':g=k:=by simpa [Value.ownBlock]using hk
    omega
  · exact(Kept.of_below (below_new w (.cells cs.toArray e))).grown hgrow fun k hk=> .inl hk
theorem wpList_push {α:Type} {P:World→List Value→α→Prop} {ops:Array Oper} {rest:List Oper} {o:Oper} {a:Act} {Q:Exit→Act→World→Prop} (hgd:o.guard=none) (s x:Operand)
    (ho:o.op= .call { callee:= .builtin .append,args:= #[s,x],argTypes:= #[t,t] }) {w0 w:World} {B C c:Nat} {p:Option Addr} {css:List (List Value)} {l:List α} {F:Nat→Prop} {cs:List Value} {y:α}
    (hr:RowG w0 w e sz P B (.slice p l.length c) css l F) (hcs:Cel sz cs) (hy:NewAt w0 w C fun W=>P W cs y) (hB:B≤C) (hC:∀k,(Value.slice p l.length c).ownBlock=some k→k<C) (hl:l.length≤100000)
    (hs:a.eval s= .slice p l.length c) (hx:a.eval x= .slice (some ⟨w.heap.size,0,none⟩) 1 1) (hBw:B≤w.heap.size)
    (h:∀p' c' F' w',RowG w0 w' e sz P B (.slice p' (l.length+1) c') (css++ [cs]) (l++ [y]) F'→(∀k,F' k→F k∨(C≤k∧k<w.heap.size))→((Value.slice p' (l.length+1) c').ownBlock=(Value.slice p l.length c).ownBlock∨∀k,(Value.slice p' (l.length+1) c').ownBlock=some k→w.heap.size≤k)→
      Kept (fun k=>(Value.slice p l.length c).ownBlock=some k) w w'→wpList Tryz.prog ops Q rest (a.put o.dst (.slice p' (l.length+1) c')) w'):
    wpList Tryz.prog ops Q (o::rest) a (w.alloc (.cells cs.toArray e)):=
  wpList_plain hgd fun _ hK=>wp_push hT s x ho hr hcs hy hB hC hl hs hx hBw fun p' c' F' w' h1 h2 h3 h4=>hK _ _ (h p' c' F' w' h1 h2 h3 h4)
end
end Go.Proofs.YtcpmjkefbjbhpaaGreatDoor
