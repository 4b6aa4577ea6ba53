/-
  Proved: a row of parts as a value; the statements' own lit. Conditions: the row lies in memory, and its texts are short.
-/
import Derived.Test.YtcpmjkefbjbhpaaGreatDoorLexCore
import Derived.Test.YtcpmjkefbjbhpaaGreatDoorSw05
namespace Go.Proofs.YtcpmjkefbjbhpaaGreatDoor
open Go Go.RowKit GlyphMath LexMath
structure PrtO (w:World) (B:Nat) (v:Value) (vs:List Value) (F:Nat→Prop) (ps:List Pt):Prop where
  own:w.ownsRow B 55 5 v ps.length (rowCells ps vs)
  len:ps.length=vs.length
  sub:∀(j:Nat) (p:Pt) (u:Value),ps[j]? =some p→vs[j]? =some u→WordV w F u p.word
  far:∀g,F g→B≤g∧g<w.heap.size∧v.ownBlock≠some g
def Prt (w:World) (B:Nat) (v:Value) (ps:List Pt):Prop:=∃vs F,PrtO w B v vs F ps
theorem PrtO.kept {D:Nat→Prop} {w w':World} {B:Nat} {v:Value} {vs:List Value} {F:Nat→Prop} {ps:List Pt} (h:PrtO w B v vs F ps) (hk:Kept D w w') (hD:∀k,B≤k→k<w.heap.size→¬D k):PrtO w' B v vs F ps where
  own:=ownsRow_same h.own fun g hg=>hk.block g (World.ownsRow.lt h.own g hg).2 (hD g (World.ownsRow.lt h.own g hg).1 (World.ownsRow.lt h.own g hg).2)
  len:=h.len
  sub:=fun j p u hp hu=>(h.sub j p u hp hu).same fun g hg=>hk.block g (h.far g hg).2.1 (hD g (h.far g hg).1 (h.far g hg).2.1)
  far:=fun g hg=>⟨(h.far g hg).1,Nat.lt_of_lt_of_le (h.far g hg).2.1 hk.size,(h.far g hg).2.2⟩
theorem Prt.kept {D:Nat→Prop} {w w':World} {B:Nat} {v:Value} {ps:List Pt} (h:Prt w B v ps) (hk:Kept D w w') (hD:∀k,B≤k→k<w.heap.size→¬D k):Prt w' B v ps:=by
  obtain⟨vs,F,h⟩:=h;exact⟨vs,F,h.kept hk hD⟩
theorem Prt.nil (w:World) (B:Nat):Prt w B (.slice none 0 0) []:=
  ⟨[],fun _=>False,World.ownsRow_nil _ _ _ _,rfl,fun _ _ _ h=>by simp at h,fun _ h=>h.elim⟩
theorem Prt.shape {w:World} {B:Nat} {v:Value} {ps:List Pt} (h:Prt w B v ps):∃a c,v= .slice a ps.length c:=by
  obtain⟨vs,F,h⟩:=h
  rcases h.own.2 with ⟨hv,h0⟩|⟨g,cap,cur,hv,_⟩
  · exact⟨none,0,by rw[hv,h0]⟩
  · exact⟨_,_,hv⟩
theorem Prt.word {w:World} {B:Nat} {v:Value} {ps:List Pt} (h:Prt w B v ps):WordN w B v ps:=by
  obtain⟨vs,F,h⟩:=h;exact⟨fun g=>F g∨v.ownBlock=some g,.row v ps vs (ownsRow_base h.own fun _ _=>Nat.zero_le _) h.len (fun _ hg=> .inr hg) (fun j p u hp hu=>(h.sub j p u hp hu).mono fun g hg=>⟨.inl hg,(h.far g hg).2.2⟩),fun g hg=>hg.elim (fun hg=>⟨(h.far g hg).1,(h.far g hg).2.1⟩) fun hg=>World.ownsRow.lt h.own g hg⟩
theorem PrtO.add {w0 w1:World} {B C g cap:Nat} {v u:Value} {vs:List Value} {F:Nat→Prop} {ps:List Pt} {p:Pt} {o:Obj} (h:PrtO w0 B v vs F ps) (hC:WordN w0 C u p.word) (hBC:B≤C) (hvC:∀g,v.ownBlock=some g→g<C)
    (hown:w1.ownsRow B 55 5 (.slice (some ⟨g,0,none⟩) (ps.length+1) cap) (ps.length+1) (rowCells ps vs++pcells p u)) (hgrow:(w0.alloc o).grownBy w1 v.ownBlock) (hat:v.ownBlock=some g∨g=w0.heap.size+1):
    Prt w1 B (.slice (some ⟨g,0,none⟩) (ps.length+1) cap) (ps++ [p]):=by
  obtain⟨F2,c1,c2⟩:=hC;have hsz:(w0.alloc o).heap.size=w0.heap.size+1:=(by simp);have hs1:=hgrow.size;rw[hsz]at hs1;have hold:∀j,j<w0.heap.size→v.ownBlock≠some j→w1.heap[j]? =w0.heap[j]? :=fun j hj hn=>(hgrow.block j (by rw[hsz];omega) (fun e=>hn e.symm)).trans (Below.heap_alloc _ _ _ hj);have hg:∀i,i<w0.heap.size→v.ownBlock≠some i→g≠i:=fun i hi hn e=>hat.elim (fun e2=>hn (by rw[e2,e])) fun e2=>(by omega);refine⟨vs++ [u],fun j=>F j∨F2 j,{ own:= ?_,len:=by simp[h.len],sub:=fun j q x hq hx=> ?_,far:=fun j hj=> ?_ }⟩
  · rw[rowCells_append _ _ _ _ h.len]
    simpa [rowCells]using hown
  · rcases Nat.lt_or_ge j ps.length with hj|hj
    · rw[List.getElem?_append_left hj]at hq
      rw[List.getElem?_append_left (by rw[←h.len];exact hj)]at hx;exact((h.sub j q x hq hx).same fun i hi=>hold i (h.far i hi).2.1 (h.far i hi).2.2).mono fun i hi=> .inl hi
    · rw[List.getElem?_append_right hj]at hq
      rw[List.getElem?_append_right (by rw[←h.len];exact hj)]at hx;obtain⟨hj0,hq0⟩:=List.getElem?_eq_some_iff.1 hq;obtain⟨_,hx0⟩:=List.getElem?_eq_some_iff.1 hx;simp only[List.length_singleton]at hj0;simp only[List.getElem_singleton]at hq0 hx0;subst hq0 hx0;exact(c1.same fun i hi=>hold i (c2 i hi).2 (fun e=>by have:=hvC i e;have:=(c2 i hi).1;omega)).mono fun i hi=> .inr hi
  · rcases hj with hj|hj
    · obtain⟨a1,a2,a4⟩:=h.far j hj
      exact⟨a1,by omega,fun e=>hg j a2 a4 (by simpa [Value.ownBlock]using e)⟩
    · obtain⟨a1,a2⟩:=c2 j hj
      exact⟨by omega,by omega,fun e=>hg j a2 (fun e2=>by have:=hvC j e2;omega) (by simpa [Value.ownBlock]using e)⟩
theorem addr_at (g j:Nat):(⟨g,0,none⟩:Addr).add j=⟨g,j,none⟩:=by simp[Addr.add];omega
theorem PrtO.form {w:World} {B:Nat} {v:Value} {vs:List Value} {F:Nat→Prop} {ps:List Pt} {p:Pt} (h:PrtO w B v vs F (ps++ [p])):
    ∃A cap vs0 u,v= .slice (some ⟨A,0,none⟩) (ps.length+1) cap∧vs=vs0++ [u]∧ps.length=vs0.length∧B≤A∧A<w.heap.size∧
      (∀i,i<5→w.cell? ⟨A,ps.length*5+i,none⟩=(pcells p u)[i]?)∧(∀j x,(rowCells (ps++ [p]) vs)[j]? =some x→w.cell? ((⟨A,0,none⟩:Addr).add j)=some x):=by
  have hl:=h.len;rw[List.length_append,List.length_singleton]at hl
  rcases List.eq_nil_or_concat vs with rfl|⟨vs0,u,rfl⟩
  · simp at hl
  rw[List.concat_eq_append]at h hl ⊢;rw[List.length_append,List.length_singleton]at hl;have ho:=h.own;rw[List.length_append,List.length_singleton]at ho;obtain⟨A,cap,rfl,hB,hA⟩:=World.ownsRow.form ho (by omega);refine⟨A,cap,vs0,u,rfl,rfl,by omega,hB,hA,fun i hi=> ?_,fun j x hx=> ?_⟩
  · rw[ho.cellAt _ (by omega),rowCells_get (ps++ [p]) (vs0++ [u]) ps.length p u (by simp) (by rw[show ps.length=vs0.length by omega];simp) (by simp;omega) i hi]
  · have hj:=(List.getElem?_eq_some_iff.1 hx).1
    rw[rowCells_length _ _ h.len,List.length_append,List.length_singleton]at hj;rw[addr_at,ho.cellAt _ (by omega),hx]
theorem prt_append {ops:Array Oper} {rest:List Oper} {o:Oper} {a:Act} {Q:Exit→Act→World→Prop} {W:World} (hgd:o.guard=none) (s x:Operand)
    (ho:o.op= .call { callee:= .builtin .append,args:= #[s,x],argTypes:= #[43,43] }) (base:Nat) (v:Value) (k:Nat) (xs:List Value) (hs:a.eval s=v)
    (hown:W.ownsRow base 55 5 v k xs) (ad:Addr) (u1 u2 u3 u4 u5:Value) (hx:a.eval x= .slice (some ad) 1 1) (hnews:∀(j:Nat) (u:Value),[u1,u2,u3,u4,u5][j]? =some u→W.cell? (ad.add j)=some u)
    (h1:∀u∈ [u1,u2,u3,u4,u5],u.oneCell'=true) (hk:k≤4000) (hbase:base≤W.heap.size) (H:Nat) (hH:W.heap.size=H)
    (h:∀g cap w',w'.ownsRow base 55 5 (.slice (some ⟨g,0,none⟩) (k+1) cap) (k+1) (xs++ [u1,u2,u3,u4,u5])→W.grownBy w' v.ownBlock→(v.ownBlock=some g∨g=H)→g<w'.heap.size→wpList Tryz.prog ops Q rest (a.put o.dst (.slice (some ⟨g,0,none⟩) (k+1) cap)) w'):
    wpList Tryz.prog ops Q (o::rest) a W:=by
  obtain⟨i0,hi,hz0,hz1,hz2⟩:=info_parts infoPart
  exact wpList_append_lies W hgd s x 43 ho base 55 i0 (.agg zeroPart) 5 72 Tryz.underlying43 hi hz0 hz1 hz2 rfl (by decide)
    v k xs hs hown ad 1 1 [u1,u2,u3,u4,u5] hx rfl hnews h1 (by decide) (by unfold maxLen;omega) (by omega) hbase H hH h
theorem prt_news {w:World} (cs:Array Value) (t:TypeId):∀(j:Nat) (u:Value),cs.toList[j]? =some u→(w.alloc (.cells cs t)).cell? ((⟨w.heap.size,0,none⟩:Addr).add j)=some u:=by
  intro j u hu;exact World.news_of_block (heap_alloc_new w (.cells cs t)) j u hu
theorem PrtO.litend {w w1:World} {B g cap k:Nat} {v v':Value} {vs:List Value} {F:Nat→Prop} {ps:List Pt} {p:Pt} {u:Value} {o:Obj} {T:ByteArray} (h:PrtO w B v vs F ps) (hB:B≤w.heap.size) (hk:ps.length=k) (hv:v'.ownBlock=v.ownBlock) (hw:WordN w w.heap.size u p.word) (hT:txt p.text= .string T) (hO:p.op= [])
    (hown:w1.ownsRow B 55 5 (.slice (some ⟨g,0,none⟩) (k+1) cap) (k+1) (rowCells ps vs++ [.int .i64 p.kind,.string T,.string ⟨#[]⟩,u,.bool p.q])) (hgrow:(w.alloc o).grownBy w1 v'.ownBlock) (hat:v'.ownBlock=some g∨g=w.heap.size+1):
    Prt w1 B (.slice (some ⟨g,0,none⟩) (k+1) cap) (ps++ [p])∧Kept (fun k=>B≤k) w w1:=by
  subst hk;rw[hv]at hgrow hat;refine⟨h.add hw hB (fun j e=>(World.ownsRow.lt h.own j e).2) ?_ hgrow hat,?_⟩
  · rw[show pcells p u= [.int .i64 p.kind,.string T,.string ⟨#[]⟩,u,.bool p.q] by unfold pcells;rw[hT,hO];rfl]
    exact hown
  · exact Kept.grown (D:=fun k=>B≤k) ((Kept.refl _ w).alloc o) hgrow fun j e=> .inl (World.ownsRow.lt h.own j e).1
set_option maxHeartbeats 1000000 in
theorem rlit_first {w:World} {B:Nat} {v:Value} (h:Prt w B v []) (t:List UInt8) (q:Bool) (hBw:B≤w.heap.size):
    Calls Tryz.prog 89 #[v,txt t,.bool q] w fun e w'=> ∃v',e= .returned v'∧Prt w' B v' [⟨1,t,[],[],q⟩]∧Kept (fun k=>B≤k) w w':=by
  obtain⟨a,c,rfl⟩:=h.shape;obtain⟨vs,F,h⟩:=h;have HH:=yH h;have HO:=yH (show ∀o1,(w.alloc o1).ownsRow B 55 5 (.slice a 0 c) 0 (rowCells [] vs)from fun o1=>h.own.alloc o1);have HB:=yH hBw;obtain⟨T,hT⟩:∃T:ByteArray,txt t= .string T:=⟨_,rfl⟩;have HT:=yH hT;have HZ:=yH (show ∀o1,B≤(w.alloc o1).heap.size∧(w.alloc o1).heap.size=w.heap.size+1 from fun o1=>⟨by simp;omega,by simp⟩);rw[hT];clear h hBw hT;simp only[List.length_nil];go_enter Tryz.func89,Tryz.ntmps89
  go_wp2_with (at_builtin;refine prt_append rfl _ _ rfl B _ 0 _ rfl (HO.out _) ⟨w.heap.size,0,none⟩ _ _ _ _ _ rfl (prt_news _ _) (by intro x hx;simp at hx;rcases hx with rfl|rfl|rfl|rfl|rfl<;>rfl) (by omega) (HZ.out _).1 (w.heap.size+1) (HZ.out _).2 ?_;intro g cap w1 hown hg hat _;have H1:=yH (And.intro hown (And.intro hg hat));clear hown hg hat)
  go_ret;exact⟨_,rfl,HH.out.litend (p:=⟨1,t,[],[],q⟩) HB.out rfl rfl (WordN.nil _ _) HT.out rfl H1.out.1 H1.out.2.1 H1.out.2.2⟩
set_option maxHeartbeats 1000000 in
theorem rlit_more {w:World} {B:Nat} {v:Value} {ps:List Pt} {p:Pt} (h:Prt w B v (ps++ [p])) (t:List UInt8) (q:Bool) (hno:¬(p.kind=1∧p.q=q)) (hn:ps.length≤3999) (hBw:B≤w.heap.size):
    Calls Tryz.prog 89 #[v,txt t,.bool q] w fun e w'=> ∃v',e= .returned v'∧Prt w' B v' (ps++ [p]++ [⟨1,t,[],[],q⟩])∧Kept (fun k=>B≤k) w w':=by
  obtain⟨vs,F,h⟩:=h;obtain⟨A,cp,vs0,u,rfl,rfl,hl,hB,hA,hc, -⟩:=h.form;obtain⟨pk,hpk⟩:∃pk,p.kind=pk:=⟨_,rfl⟩;obtain⟨pq,hpq⟩:∃pq,p.q=pq:=⟨_,rfl⟩;have k0:=hc 0 (by omega);have k4:=hc 4 (by omega);simp only[pcells,List.getElem?_cons_zero,List.getElem?_cons_succ,Nat.add_zero,hpk,hpq]at k0 k4;rw[hpk,hpq]at hno;have HH:=yH h;have ho:=h.own;rw[List.length_append,List.length_singleton]at ho;obtain⟨n,hn'⟩:∃n,ps.length=n:=⟨_,rfl⟩;rw[hn']at k0 k4 ho HH ⊢;have HO:=yH (show ∀o1,(w.alloc o1).ownsRow B 55 5 (.slice (some ⟨A,0,none⟩) (n+1) cp) (n+1) (rowCells (ps++ [p]) (vs0++ [u]))from fun o1=>ho.alloc o1);have HN:=yH (show(ps++ [p]).length=n+1 by simp[hn']);have HB:=yH hBw;obtain⟨T,hT⟩:∃T:ByteArray,txt t= .string T:=⟨_,rfl⟩;have HT:=yH hT;have HZ:=yH (show ∀o1,B≤(w.alloc o1).heap.size∧(w.alloc o1).heap.size=w.heap.size+1 from fun o1=>⟨by simp;omega,by simp⟩);rw[hT];have hn1:(n:Int)≤10000:=(by omega);have hn0:(0:Int)≤n:=(by omega);have hn2:(0:Int)≤(n:Int)+1:=(by omega);have hn3:(n:Int)<(n:Int)+1:=(by omega);have HLE:=yH (show n+1≤4000 by omega);clear h hT hBw ho hn hn' hc hl hB hA hpk hpq
  by_cases hk:pk=1
  · have hqq:(pq==q)=false:=by
      have hq:¬pq=q:=fun e=>hno ⟨hk,e⟩
      simpa using hq
    subst hk;clear hno;go_enter Tryz.func89,Tryz.ntmps89
    go_wp2_with (at_builtin;refine prt_append rfl _ _ rfl B _ (n+1) _ rfl (HO.out _) ⟨w.heap.size,0,none⟩ _ _ _ _ _ rfl (prt_news _ _) (by intro x hx;simp at hx;rcases hx with rfl|rfl|rfl|rfl|rfl<;>rfl) HLE.out (HZ.out _).1 (w.heap.size+1) (HZ.out _).2 ?_;intro g cap w1 hown hg hat _;have H1:=yH (And.intro hown (And.intro hg hat));clear hown hg hat)
    go_ret;exact⟨_,rfl,HH.out.litend (p:=⟨1,t,[],[],q⟩) HB.out HN.out rfl (WordN.nil _ _) HT.out rfl H1.out.1 H1.out.2.1 H1.out.2.2⟩
  · have hkk:(pk==1)=false:=by simpa using hk
    clear hno hk;go_enter Tryz.func89,Tryz.ntmps89
    go_wp2_with (at_builtin;refine prt_append rfl _ _ rfl B _ (n+1) _ rfl (HO.out _) ⟨w.heap.size,0,none⟩ _ _ _ _ _ rfl (prt_news _ _) (by intro x hx;simp at hx;rcases hx with rfl|rfl|rfl|rfl|rfl<;>rfl) HLE.out (HZ.out _).1 (w.heap.size+1) (HZ.out _).2 ?_;intro g cap w1 hown hg hat _;have H1:=yH (And.intro hown (And.intro hg hat));clear hown hg hat)
    go_ret;exact⟨_,rfl,HH.out.litend (p:=⟨1,t,[],[],q⟩) HB.out HN.out rfl (WordN.nil _ _) HT.out rfl H1.out.1 H1.out.2.1 H1.out.2.2⟩
theorem rowCells_one (ps:List Pt) (vs:List Value):∀x∈rowCells ps vs,(∀v∈vs,v.oneCell'=true)→x.oneCell'=true:=by
  induction ps generalizing vs with
  |nil=>intro x hx;cases vs<;>cases hx
  |cons p ps ih=>
    intro x hx hv
    cases vs with
    |nil=>cases hx
    |cons v vs=>
      rw[rowCells]at hx
      rcases List.mem_append.1 hx with hx|hx
      · simp only[pcells,List.mem_cons,List.not_mem_nil,or_false]at hx
        rcases hx with rfl|rfl|rfl|rfl|rfl
        · rfl
        · rfl
        · rfl
        · exact hv _ (by simp)
        · rfl
      · exact ih vs x hx fun y hy=>hv y (by simp[hy])
theorem WordV.one {w:World} {F:Nat→Prop} {v:Value} {ps:List Pt} (h:WordV w F v ps):v.oneCell'=true:=by
  cases h with
  |row _ _ vs h1 _ _ _=>
    rcases h1.2 with ⟨rfl,_⟩|⟨g,cap,cur,rfl,_⟩
    · rfl
    · rfl
theorem PrtO.ones {w:World} {B:Nat} {v:Value} {vs:List Value} {F:Nat→Prop} {ps:List Pt} (h:PrtO w B v vs F ps):∀x∈rowCells ps vs,x.oneCell'=true:=fun x hx=>
  rowCells_one ps vs x hx fun y hy=>by
    obtain⟨j,hj,rfl⟩:=List.mem_iff_getElem.1 hy;have hl:=h.len;exact(h.sub j (ps[j]'(by omega)) vs[j] (List.getElem?_eq_getElem _) (List.getElem?_eq_getElem _)).one
theorem PrtO.copied {w w1:World} {B g cap k:Nat} {v:Value} {vs0:List Value} {u:Value} {F:Nat→Prop} {ps:List Pt} {p:Pt} {o:Obj} {e:Option Nat} (h:PrtO w B v (vs0++ [u]) F (ps++ [p])) (hk:ps.length=k) (hl:ps.length=vs0.length)
    (hown:w1.ownsRow B 55 5 (.slice (some ⟨g,0,none⟩) (k+1) cap) (k+1) (rowCells (ps++ [p]) (vs0++ [u]))) (hgrow:(w.alloc o).grownBy w1 e) (he:e=some w.heap.size) (hg:w.heap.size≤g) (t:List UInt8):
    Prt (w1.setCell ⟨g,k*5+1,none⟩ (txt t)) B (.slice (some ⟨g,0,none⟩) (k+1) cap) (ps++ [{ p with text:=t }])∧Kept (fun k=>B≤k) w (w1.setCell ⟨g,k*5+1,none⟩ (txt t)):=by
  subst hk he;have hK:Kept (fun _=>False) w w1:=Kept.grown ((Kept.refl _ w).alloc o) hgrow fun j e=> .inr (by cases e;exact Nat.le_refl _);have hK2:Kept (fun _=>False) w (w1.setCell ⟨g,ps.length*5+1,none⟩ (txt t)):=hK.setCell (.inr hg) _;have hs:=(hown.stored (ps.length*5+1) (txt t)).1;rw[rowCells_set ps vs0 p u t hl]at hs;refine⟨⟨vs0++ [u],F,?_,by simpa using h.len,fun j q x hq hx=> ?_,fun i hi=> ?_⟩,hK2.mono fun _ _ h=>h.elim⟩
  · simpa using hs
  · have hsub:∀q',(ps++ [p])[j]? =some q'→q'.word=q.word→WordV (w1.setCell ⟨g,ps.length*5+1,none⟩ (txt t)) F x q.word:=fun q' hq' e=>by
      rw[←e];exact(h.sub j q' x hq' hx).same fun i hi=>hK2.block i (h.far i hi).2.1 fun h=>h
    rcases Nat.lt_or_ge j ps.length with hj|hj
    · rw[List.getElem?_append_left hj]at hq
      exact hsub q (by rw[List.getElem?_append_left hj];exact hq) rfl
    · rw[List.getElem?_append_right hj]at hq
      obtain⟨hj0,hq0⟩:=List.getElem?_eq_some_iff.1 hq;simp only[List.length_singleton]at hj0;obtain rfl:j=ps.length:=(by omega);refine hsub p (by simp) ?_;rw[←hq0];simp
  · obtain⟨h1,h2, -⟩:=h.far i hi
    exact⟨h1,Nat.lt_of_lt_of_le h2 hK2.size,fun e=>by simp only[Value.ownBlock,Option.some.injEq]at e;omega⟩
set_option maxHeartbeats 1000000 in
theorem rlit_join {w:World} {B:Nat} {v:Value} {ps:List Pt} {p:Pt} (h:Prt w B v (ps++ [p])) (t:List UInt8) (hk:p.kind=1) (hs:p.text.length+t.length≤100000) (hn:ps.length≤3999) (hBw:B≤w.heap.size):
    Calls Tryz.prog 89 #[v,txt t,.bool p.q] w fun e w'=> ∃v',e= .returned v'∧Prt w' B v' (ps++ [{ p with text:=p.text++t }])∧Kept (fun k=>B≤k) w w':=by
  obtain⟨vs,F,h⟩:=h;obtain⟨A,cp,vs0,u,rfl,rfl,hl,hB,hA,hc,hcells⟩:=h.form;obtain⟨pq,hpq⟩:∃pq,p.q=pq:=⟨_,rfl⟩;have k0:=hc 0 (by omega);have k4:=hc 4 (by omega);simp only[pcells,List.getElem?_cons_zero,List.getElem?_cons_succ,Nat.add_zero,hk,hpq]at k0 k4;rw[hpq];have HPQ:=yH hpq;have HH:=yH h;have HL:=yH hl;have ho:=h.own;rw[List.length_append,List.length_singleton]at ho
  have hgl:(rowCells (ps++ [p]) (vs0++ [u]))[ps.length*5+1]? =some (txt p.text):=by
    rw[rowCells_get (ps++ [p]) (vs0++ [u]) ps.length p u (by simp) (by rw[hl];simp) (by simp[hl]) 1 (by omega)];rfl
  have hrl:(rowCells (ps++ [p]) (vs0++ [u])).length=(ps.length+1)*5:=(by rw[rowCells_length _ _ (by simp[hl])];simp);obtain⟨n,hn'⟩:∃n,ps.length=n:=⟨_,rfl⟩;rw[hn']at k0 k4 ho hgl hrl HH ⊢;have HN:=yH hn';have HB:=yH hBw;obtain⟨a,ha⟩:∃a:ByteArray,a=⟨p.text.toArray⟩:=⟨_,rfl⟩;obtain⟨b,hb⟩:∃b:ByteArray,b=⟨t.toArray⟩:=⟨_,rfl⟩;have hsz:¬(9223372036854775807:Int)<(a.size:Int)+(b.size:Int):=(by rw[ha,hb,bytes_size,bytes_size];omega);have HAB:=yH (show(.string (a++b):Value)=txt (p.text++t) by rw[ha,hb,bytes_append];rfl);rw[show txt t= .string b by rw[hb];rfl];rw[show txt p.text= .string a by rw[ha];rfl]at hgl;obtain⟨i0,hi0,hz0,hz1,hz2⟩:=info_parts infoPart;have HI:=yH (And.intro hi0 (And.intro hz0 (And.intro hz1 hz2)));have HR:=yH (And.intro hrl hgl);have H1':=yH h.ones;have HCE:=yH (show ∀o1,∀j x,(rowCells (ps++ [p]) (vs0++ [u]))[j]? =some x→(w.alloc o1).cell? ((⟨A,0,none⟩:Addr).add j)=some x from fun o1 j x hx=>(World.cell?_alloc_lt _ _ _ (by rw[addr_at];exact hA)).trans (hcells j x hx));have HE:=yH (show(w.alloc (.cells #[] 55)).ownsRow B 55 5 (.slice (some ⟨w.heap.size,0,none⟩) 0 0) 0 []from World.ownsRow_lit w #[] 0 hBw (by decide) rfl);have HZ:=yH (show ∀o1,B≤(w.alloc o1).heap.size∧(w.alloc o1).heap.size=w.heap.size+1 from fun o1=>⟨by simp;omega,by simp⟩);have HC:=yH (show 0<n+1∧0+(n+1)≤maxLen∧(0+(n+1))*72≤140737488355328 from⟨by omega,by unfold maxLen;omega,by omega⟩);have hn1:(n:Int)≤10000:=(by omega);have hn0:(0:Int)≤n:=(by omega);have hn2:(0:Int)≤(n:Int)+1:=(by omega);have hn3:(n:Int)<(n:Int)+1:=(by omega);clear h hBw ho hn hn' hc hl hB hA hpq hk ha hb hs hcells hrl hgl hi0 hz0 hz1 hz2;go_enter Tryz.func89,Tryz.ntmps89
  go_wp2_with (at_builtin;refine wpList_append_lies _ rfl _ _ 43 rfl B 55 i0 (.agg zeroPart) 5 72 Tryz.underlying43 HI.out.1 HI.out.2.1 HI.out.2.2.1 HI.out.2.2.2 rfl (by decide) _ 0 [] rfl HE.out ⟨A,0,none⟩ (n+1) cp _ rfl HR.out.1 (HCE.out _) H1'.out HC.out.1 HC.out.2.1 HC.out.2.2 (HZ.out _).1 (w.heap.size+1) (HZ.out _).2 ?_;intro g cap w1 hown hg hat hlt;rw[Nat.zero_add,List.nil_append]at hown;have c1:=hown.cellAt (n*5+1) (by omega);rw[HR.out.2]at c1;have f1:=hown.frozenAt (n*5+1);have H1:=yH (And.intro hown (And.intro hg (And.intro hat hlt)));clear hown hg hat hlt)
  go_ret;obtain⟨hown,hg,hat, -⟩:=H1.out
  have hge:w.heap.size≤g:=by
    rcases hat with e|e
    · exact Nat.le_of_eq (Option.some.inj e)
    · omega
  have hz:=HH.out.copied HN.out HL.out hown hg rfl hge (p.text++t);rw[←HPQ.out,HAB.out];exact⟨_,rfl,hz⟩
theorem rlit_any {w:World} {B:Nat} {v:Value} {xs:List Nat} {ps:List Pt} (h:Prt w B v ps) (hf:Fits xs ps) (hB:B≤w.heap.size) (t:List UInt8) (ht:t.length≤16000) (q:Bool):
    Calls Tryz.prog 89 #[v,txt t,.bool q] w fun e w'=> ∃v',e= .returned v'∧Prt w' B v' (lit ps t q)∧Kept (fun k=>B≤k) w w':=by
  rcases List.eq_nil_or_concat ps with rfl|⟨r,p,rfl⟩
  · exact rlit_first h t q hB
  · rw[List.concat_eq_append]at h hf ⊢
    have hl:=hf.1;simp only[List.length_append,List.length_singleton]at hl;have hp:=hf.2 p (by simp);rw[lit_last]
    by_cases hc:p.kind=1∧p.q=q
    · rw[if_pos hc]
      obtain⟨h1,rfl⟩:=hc;exact rlit_join h t h1 (by omega) (by omega) hB
    · rw[if_neg hc]
      exact rlit_more h t q hc (by omega) hB
end Go.Proofs.YtcpmjkefbjbhpaaGreatDoor
