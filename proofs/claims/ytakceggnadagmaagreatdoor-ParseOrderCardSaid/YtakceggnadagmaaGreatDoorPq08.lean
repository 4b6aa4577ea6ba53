/-
  Proved: contracts of functions, plain facts. Conditions: as each says.
-/
import Derived.Test.YtakceggnadagmaaGreatDoorPq06
import Derived.Test.YtakceggnadagmaaGreatDoorPq02
import Derived.Test.YtakceggnadagmaaGreatDoorPq03
import Derived.Lib.OthersKept
import Derived.LoopTactic
namespace Go.Proofs.YtakceggnadagmaaGreatDoor
open Go Go.RowKit GlyphMath LexMath TreeMath ParseMath
theorem rest_index:∀(l:List UInt8),(∃i,i<l.length∧Lib.indexByte l 61=(i:Int)∧aheadT l=some (l.take i)∧restT l=l.drop (i+1))∨(Lib.indexByte l 61= -1∧aheadT l=none)
  | []=> .inr ⟨rfl,rfl⟩
  |b::l=>by
    rw[Lib.indexByte,aheadT,restT]
    by_cases h:b=61
    · subst h
      exact .inl ⟨0,by simp,by simp,by simp,by simp⟩
    · have h1:(b==61)=false:=by simpa using h
      rw[h1,if_neg h,if_neg h]
      rcases rest_index l with ⟨i,h2,h3,h4,h5⟩|⟨h3,h4⟩
      · refine .inl ⟨i+1,by simpa using h2,?_,?_,by simpa using h5⟩
        · rw[h3]
          have:(((i:Int))== -1)=false:=beq_eq_false_iff_ne.2 (by omega);rw[this];simp
        · rw[h4];rfl
      · exact .inr ⟨by rw[h3];rfl,by rw[h4];rfl⟩
set_option maxHeartbeats 2000000 in
set_option maxRecDepth 100000 in
theorem slcut2_any (s:ByteArray) (w:World) (hs:s.size≤1048576):
    Calls Tryz.prog 200 #[.string s,.string ⟨#[61]⟩] w fun e w'=> ∃a b:ByteArray,∃f:Bool,e= .returned (.tuple #[.string a,.string b,.bool f])∧((f=true∧aheadT s.data.toList=some a.data.toList∧restT s.data.toList=b.data.toList)∨(f=false∧aheadT s.data.toList=none))∧∃n,w'=w.drewN n:=by
  have HI:=yH (fun W=>Tryz.stringslite_Index_one s 61 W)
  rcases rest_index s.data.toList with ⟨i,h1,h2,h3,h4⟩|⟨h2,h3⟩
  · rw[h3,h4]
    rw[h2]at HI;rw[←Lib.size_eq]at h1;have c1:(0:Int)≤(i:Int):=(by omega);have c2:(i:Int)≤(s.size:Int):=(by omega);obtain⟨m,hm⟩:∃m:Nat,m=i+1:=⟨_,rfl⟩
    have hwr:IntKind.i64.wrap ((i:Int)+1)=(m:Int):=by
      have e:(m:Int)=(i:Int)+1:=(by omega);rw[e];exact IntWalk.i64_in _ ⟨by omega,by omega⟩
    have c3:(0:Int)≤(m:Int):=(by omega);have c4:(m:Int)≤(s.size:Int):=(by omega);have HS:=yH (show s.data.toList.take i=(s.extract 0 i).data.toList by simp[ByteArray.data_extract]);have HD:=yH (show s.data.toList.drop (i+1)=(s.extract m s.size).data.toList by rw[hm];simp only[ByteArray.data_extract,Array.toList_extract];rw[List.extract_eq_take_drop,List.take_of_length_le (by rw[List.length_drop,←Lib.size_eq];omega)]);clear h1 h2 h3 h4 hm hs;go_enter Tryz.func200,Tryz.ntmps200
    go_wp2_with (go_at_call 201;refine(HI.out _).mono ?_;rintro e w' ⟨rfl,rfl⟩)
    go_quiet (fail)
    go_wp2_with fail
    go_ret3
    exact⟨_,_,_,rfl,.inl ⟨rfl,by rw[HS.out],HD.out⟩,_,rfl⟩
  · rw[h3]
    rw[h2]at HI;clear h2 h3 hs;go_enter Tryz.func200,Tryz.ntmps200
    go_wp2_with (go_at_call 201;refine(HI.out _).mono ?_;rintro e w' ⟨rfl,rfl⟩)
    go_ret3
    exact⟨_,_,_,rfl,.inr ⟨rfl,trivial⟩,0,rfl⟩
theorem cut2_any (s:ByteArray) (w:World) (hs:s.size≤1048576):
    Calls Tryz.prog 199 #[.string s,.string ⟨#[61]⟩] w fun e w'=> ∃a b:ByteArray,∃f:Bool,e= .returned (.tuple #[.string a,.string b,.bool f])∧((f=true∧aheadT s.data.toList=some a.data.toList∧restT s.data.toList=b.data.toList)∨(f=false∧aheadT s.data.toList=none))∧Below w.heap.size w w':=by
  have HI:=yH (slcut2_any s w hs);clear hs;go_enter Tryz.func199,Tryz.ntmps199
  go_wp2_with (go_at_call 200;refine HI.out.mono ?_;rintro e w1 ⟨a,b,f,rfl,hf,n,rfl⟩;have HF:=yH hf;clear hf)
  go_ret3
  exact⟨_,_,_,rfl,HF.out,below_drew _ _ _⟩
def PartP (W:World) (cs:List Value) (q:Pt):Prop:=∃u,cs=pcells q u∧PsAt W u q.word
def PaR (w0 w:World) (B:Nat) (v:Value) (ps:List Pt):Prop:=∃css,RowG w0 w 113 5 PartP B v css ps (fun _=>False)
theorem part_cel {W:World} {q:Pt} {u:Value} (h:PsAt W u q.word):Cel 5 (pcells q u):=by
  obtain⟨p,c,rfl, -⟩:=h.is;refine⟨rfl,fun v hv=> ?_⟩;simp only[pcells,txt,List.mem_cons,List.not_mem_nil,or_false]at hv
  rcases hv with rfl|rfl|rfl|rfl|rfl<;>rfl
theorem PaR.ps {w0 w:World} {B:Nat} {v:Value} {ps:List Pt} (h:PaR w0 w B v ps) (hm:ps.length≤maxLen):NewAt w0 w B fun W=>PsAt W v ps:=by
  obtain⟨css,h⟩:=h;refine⟨fun k=>False∨v.ownBlock=some k,h.lt,h.slat.imp fun W hW=> ?_⟩;obtain⟨⟨p,c,rfl,h1⟩,h2⟩:=hW
  have key:∀(k:Nat) (q:Pt) (u:Value),ps[k]? =some q→(css.map fun cs=>cs.getD 3 (.bool false))[k]? =some u→SpotAt W p k 5 (pcells q u)∧PsAt W u q.word:=fun k q u hq hu=>by
    rw[List.getElem?_map]at hu;obtain⟨cs,hcs,rfl⟩:=Option.map_eq_some_iff.1 hu;obtain⟨u',rfl,hu'⟩:=h2 k cs q hcs hq;exact⟨h1 k _ hcs,hu'⟩
  exact .mk p c ps _ (by rw[List.length_map,h.len]) hm (fun k q u hq hu=>(key k q u hq hu).1) (fun k q u hq hu=>(key k q u hq hu).2)
theorem PaR.adds {w0 w:World} {B:Nat} {v v':Value} {ps qs:List Pt} {css dss:List (List Value)} (h:RowG w0 w 113 5 PartP B v css ps (fun _=>False)) (hl:dss.length=qs.length) (hq:∀(k:Nat) (ds:List Value) (q:Pt),dss[k]? =some ds→qs[k]? =some q→PartP w0 ds q)
    {w2:World} (hown:w2.ownsRow B 113 5 v' (ps.length+qs.length) (css.flatten++dss.flatten)):PaR w0 w2 B v' (ps++qs):=by
  have hd:∀ds∈dss,Cel 5 ds:=fun ds hds=>by
    obtain⟨k,hk,rfl⟩:=List.mem_iff_getElem.1 hds;obtain⟨u,e,hu⟩:=hq k _ _ (List.getElem?_eq_getElem hk) (List.getElem?_eq_getElem (by rw[←hl];exact hk));rw[e];exact part_cel hu
  refine⟨css++dss,?_,by simp[h.len,hl],?_,?_,fun k hk=>hk.elim⟩
  · rw[List.length_append,List.flatten_append]
    exact hown
  · intro cs hcs
    exact(List.mem_append.1 hcs).elim (h.each cs) (hd cs)
  · intro k cs x h1 h2
    rcases Nat.lt_or_ge k ps.length with hk|hk
    · rw[List.getElem?_append_left (by rw[h.len];exact hk)]at h1
      rw[List.getElem?_append_left hk]at h2;exact(h.sub k cs x h1 h2).same fun i hi=>hi.elim
    · rw[List.getElem?_append_right (by rw[h.len];exact hk),h.len]at h1
      rw[List.getElem?_append_right hk]at h2;obtain⟨u,e,hu⟩:=hq _ _ _ h1 h2;exact Stays.of0 fun W hb=>⟨u,e,hu.stays hb⟩
theorem PsAt.more {w:World} {q:Pt} {r:List Pt} {b o c:Nat} (h:PsAt w (.slice (some ⟨b,o,none⟩) (r.length+1) c) (q::r)):∃dss:List (List Value),dss.length=r.length∧(∀(k:Nat) (ds:List Value) (x:Pt),dss[k]? =some ds→r[k]? =some x→PartP w ds x)∧(∀ds∈dss,Cel 5 ds)∧∀(j:Nat) (u:Value),dss.flatten[j]? =some u→w.cell? ⟨b,o+5+j,none⟩=some u:=by
  generalize hv:Value.slice (some ⟨b,o,none⟩) (r.length+1) c=v at h
  generalize hps:q::r=ps at h
  cases h with
  |mk p c' ps' us h1 h2 h3 h4=>
    subst hps;simp only[Value.slice.injEq]at hv;obtain⟨rfl, -,rfl⟩:=hv
    obtain⟨u0,us,rfl⟩:∃u0 us',us=u0::us':=by
      cases us with
      |nil=>simp at h1
      |cons a t=>exact⟨a,t,rfl⟩
    have hul:us.length=r.length:=(by simpa using h1);have hl:(List.zipWith pcells r us).length=r.length:=(by rw[List.length_zipWith,hul];simp)
    have hget:∀(k:Nat) (ds:List Value),(List.zipWith pcells r us)[k]? =some ds→∃x u,r[k]? =some x∧us[k]? =some u∧ds=pcells x u:=fun k ds hk=>by
      rw[List.getElem?_zipWith]at hk
      cases hr:r[k]? with
      |none=>rw[hr]at hk;simp at hk
      |some x=>
        cases hu:us[k]? with
        |none=>rw[hr,hu]at hk;simp at hk
        |some u=>rw[hr,hu]at hk;exact⟨x,u,rfl,rfl,by simpa using hk.symm⟩
    have hcel:∀ds∈List.zipWith pcells r us,Cel 5 ds:=fun ds hds=>by
      obtain⟨k,hk,rfl⟩:=List.mem_iff_getElem.1 hds;obtain⟨x,u,hx,hu,e⟩:=hget k _ (List.getElem?_eq_getElem hk);rw[e];exact part_cel (h4 (k+1) x u (by simpa using hx) (by simpa using hu))
    refine⟨List.zipWith pcells r us,hl,fun k ds x hk hx=> ?_,hcel,fun j u hj=> ?_⟩
    · obtain⟨x',u,hx',hu,e⟩:=hget k ds hk
      rw[hx]at hx'
      cases hx'
      exact⟨u,e,h4 (k+1) x u (by simpa using hx) (by simpa using hu)⟩
    · have hjl:=(List.getElem?_eq_some_iff.1 hj).1
      rw[flat_len hcel,hl]at hjl;have hk:j/5<r.length:=(by omega);obtain⟨x,ux,hx,hux,e⟩:=hget (j/5) _ (List.getElem?_eq_getElem (by rw[hl];exact hk));have hf:=flat_get hcel (j/5) _ (List.getElem?_eq_getElem (by rw[hl];exact hk)) (j % 5) (by omega);rw[show j/5*5+j % 5=j by omega,hj]at hf;obtain⟨b',o',he,hc⟩:=h3 (j/5+1) x ux (by simpa using hx) (by simpa using hux);simp only[Option.some.injEq,Addr.mk.injEq,and_true]at he;obtain⟨rfl,rfl⟩:=he;have:=hc (j % 5) u (by rw[←e];exact hf.symm)
      rwa [show o+(j/5+1)*5+j % 5=o+5+j by omega]at this
theorem own_shape {w:World} {B e s n:Nat} {v:Value} {xs:List Value} (h:w.ownsRow B e s v n xs):∃a c,v= .slice a n c:=by
  rcases h.2 with ⟨hv,h0⟩|⟨g,cap,cur,hv,_⟩
  · exact⟨none,0,by rw[hv,h0]⟩
  · exact⟨_,_,hv⟩
theorem assign_info:(Tryz.prog.info? 105).map (·.size)=some 2:=by kernel_rfl
theorem ret_assign {fn:Func} {p u:Tmp} (hf:fn.results= #[.cell p 105,.tmp u]) {tmps:Array Value} {k:Nat} {a b x:Value} {w:World} {t:TypeId} {fr:Nat×Nat} (h:w.heap[k]? =some (.cells #[a,b] t fr)) (h2:tmps.getD p undef= .pointer (some ⟨k,0,none⟩)) (h3:tmps.getD u undef=x):
    (results fn tmps).run Tryz.prog w= .ok (.tuple #[.agg #[a,b],x]) w:=by
  rw[results_cell_tmp hf,h2,h3];have:(loadVar 105 ⟨k,0,none⟩).run Tryz.prog w= .ok (.agg #[a,b]) w:=run_loadVar_row (P:=Tryz.prog) w k t 105 _ fr _ h Tryz.underlying105 rfl assign_info;simp[asAddr,Result.andThen,this]
def AsEnd (w0 w w':World) (e:Ending) (m:Option (List UInt8×List Pt)):Prop:=Below w.heap.size w w'∧match m with
  |none=>e= .returned (.tuple #[.agg #[.string ⟨#[]⟩,.slice none 0 0],.bool false])
  |some a=> ∃p n c,e= .returned (.tuple #[.agg #[.string (T a.1),.slice p n c],.bool true])∧NewAt w0 w' w.heap.size fun W=>PsAt W (.slice p n c) a.2
theorem below3 {w w1:World} (h:Below w.heap.size w w1) {D:Nat→Prop} {w2:World} (hk:Kept D w1 w2) (hD:∀k,D k→w.heap.size≤k):Below w.heap.size w w2:=h.trans ⟨hk.os,hk.tape,hk.output,hk.size,fun i hi=>hk.block i (by have:=h.size;omega) fun hd=>by have:=hD i hd;omega⟩
structure AsO (w0 w wr:World) (wv:Value) (P:Array Value):Prop where
  word:wr.heap[w.heap.size]? =some (.cells #[wv] 70 (0,0))
  res:wr.heap[w.heap.size+1]? =some (.cells #[.string ⟨#[]⟩,.slice none 0 0] 105 (0,0))
  part:wr.heap[w.heap.size+2]? =some (.cells P 113 (0,0))
  below:Below w.heap.size w wr
  base:Below w0.heap.size w0 wr
theorem AsO.new {w0 w wr w1:World} {wv:Value} {P:Array Value} (h:AsO w0 w wr wv P) (hb:Below wr.heap.size wr w1):AsO w0 w w1 wv P:=by
  have l1:=(gS.1 h.word).1;have l2:=(gS.1 h.res).1;have l3:=(gS.1 h.part).1;exact⟨(hb.block _ l1).trans h.word,(hb.block _ l2).trans h.res,(hb.block _ l3).trans h.part,h.below.trans (hb.mono h.below.size),h.base.trans (hb.mono h.base.size)⟩
theorem AsO.turn {D:Nat→Prop} {w0 w wr w1:World} {wv:Value} {P:Array Value} (h:AsO w0 w wr wv P) (h0:w0.heap.size≤w.heap.size) (hk:Kept D wr w1) (hD:∀k,D k→w.heap.size+3≤k):AsO w0 w w1 wv P:=
  ⟨hk.heap h.word (fun e=>by have:=hD _ e;omega),hk.heap h.res (fun e=>by have:=hD _ e;omega),hk.heap h.part (fun e=>by have:=hD _ e;omega),below_kept h.below hk (fun i hi=>by have:=hD i hi;omega) h.below.size,below_kept h.base hk (fun i hi=>by have:=hD i hi;omega) h.base.size⟩
theorem AsO.mk0 {w0 w:World} (hb:Below w0.heap.size w0 w) (wv:Value) (P:Array Value):AsO w0 w (((w.alloc (.cells #[wv] 70)).alloc (.cells #[.string ⟨#[]⟩,.slice none 0 0] 105)).alloc (.cells P 113)) wv P:=by
  have b1:=below_new w (.cells #[wv] 70);have b2:=below_new (w.alloc (.cells #[wv] 70)) (.cells #[.string ⟨#[]⟩,.slice none 0 0] 105);have b3:=below_new ((w.alloc (.cells #[wv] 70)).alloc (.cells #[.string ⟨#[]⟩,.slice none 0 0] 105)) (.cells P 113);have s1:(w.alloc (.cells #[wv] 70)).heap.size=w.heap.size+1:=(by simp);have s2:((w.alloc (.cells #[wv] 70)).alloc (.cells #[.string ⟨#[]⟩,.slice none 0 0] 105)).heap.size=w.heap.size+2:=(by simp);have n1:=heap_alloc_new w (.cells #[wv] 70);have n2:=heap_alloc_new (w.alloc (.cells #[wv] 70)) (.cells #[.string ⟨#[]⟩,.slice none 0 0] 105);have n3:=heap_alloc_new ((w.alloc (.cells #[wv] 70)).alloc (.cells #[.string ⟨#[]⟩,.slice none 0 0] 105)) (.cells P 113);rw[s1]at n2 b2;rw[s2]at n3 b3;have hbl:=(b1.trans (b2.mono (by omega))).trans (b3.mono (by omega));exact⟨((b3.block _ (by omega)).trans (b2.block _ (by omega))).trans n1,(b3.block _ (by omega)).trans n2,n3,hbl,hb.trans (hbl.mono hb.size)⟩
theorem wpList_adds {ops:Array Oper} {rest:List Oper} {o:Oper} {a:Act} {Q:Exit→Act→World→Prop} (hgd:o.guard=none) (s x:Operand) (ho:o.op= .call { callee:= .builtin .append,args:= #[s,x],argTypes:= #[68,68] })
    {w0 w:World} {B c m k n:Nat} {p:Option Addr} {css dss:List (List Value)} {ps qs:List Pt} {ad:Addr} (h:RowG w0 w 113 5 PartP B (.slice p n c) css ps (fun _=>False)) (hn:ps.length=n) (hl:dss.length=qs.length) (hq:∀(k:Nat) (ds:List Value) (q:Pt),dss[k]? =some ds→qs[k]? =some q→PartP w0 ds q) (hcel:∀ds∈dss,Cel 5 ds)
    (hcells:∀(j:Nat) (u:Value),dss.flatten[j]? =some u→w.cell? (ad.add j)=some u) (hs:a.eval s= .slice p n c) (hx:a.eval x= .slice (some ad) m k) (hm:qs.length=m) (hfew:n+m≤100001) (hB:B≤w.heap.size)
    (H:∀p' c' w',PaR w0 w' B (.slice p' (n+m) c') (ps++qs)→Kept (fun k=>(Value.slice p n c).ownBlock=some k) w w'→(n=0→p=none→c=0→m=0→p'=none∧c'=0)→wpList Tryz.prog ops Q rest (a.put o.dst (.slice p' (n+m) c')) w'):wpList Tryz.prog ops Q (o::rest) a w:=by
  obtain⟨i,h1,h2,h3,h4⟩:=info_parts infoPart
  refine wpList_append_own w hgd s x 68 ho B 113 i _ 5 72 Tryz.underlying68 h1 h2 h3 h4 rfl (by decide) (.slice p n c) n css.flatten hs (by rw[←hn];rw[←hn]at h;exact h.own) ad m k dss.flatten hx (by rw[flat_len hcel,hl,hm]) hcells (fun u hu=>by
    obtain⟨ds,hds,hu⟩:=List.mem_flatten.1 hu
    exact(hcel ds hds).2 u hu) (by unfold maxLen;omega) (by omega) hB ?_
  intro v' w' hown hg hnil;obtain⟨p',c',rfl⟩:=own_shape hown;refine H p' c' w' (PaR.adds h hl hq (by rw[hn,hm];exact hown)) ((Kept.refl (fun k=>(Value.slice p n c).ownBlock=some k) w).grown hg (fun k hk=> .inl hk)) (fun hn0 hp hc hm0=> ?_);have:=hnil.2 ⟨by rw[hn0,hp,hc],hm0⟩;simp only[Value.slice.injEq]at this;exact⟨this.1,this.2.2⟩
theorem assignO_some {q:Pt} {r:List Pt} {n:List UInt8} (h1:bareT q=true) (h2:aheadT q.text=some n) (h3:nameT n=true):assignO (q::r)=some (n,if restT q.text= []∧r= []then [⟨1,[],[],[],true⟩]else if restT q.text= []then r else⟨1,restT q.text,[],[],false⟩::r):=by
  simp only[assignO,h1,h2,h3,if_true]
theorem assignO_bare {q:Pt} {r:List Pt} (h1:bareT q=false):assignO (q::r)=none:=by simp[assignO,h1]
theorem assignO_none {q:Pt} {r:List Pt} (h1:bareT q=true) (h2:aheadT q.text=none):assignO (q::r)=none:=by simp[assignO,h1,h2]
theorem assignO_name {q:Pt} {r:List Pt} {n:List UInt8} (h1:bareT q=true) (h2:aheadT q.text=some n) (h3:nameT n=false):assignO (q::r)=none:=by simp[assignO,h1,h2,h3]
set_option maxHeartbeats 16000000 in
set_option maxRecDepth 10000 in
theorem passign_any {w0 w:World} (hb:Below w0.heap.size w0 w) (ps:List Pt) (p:Option Addr) (k:Nat) (hu:PsAt w0 (.slice p ps.length k) ps) (hk:ps.length≤k) (hne:ps≠ []) (hsm:Small ps) (hfew:ps.length≤100000):
    Calls Tryz.prog 197 #[.agg #[.slice p ps.length k]] w fun e w'=>AsEnd w0 w w' e (assignO ps):=by
  obtain⟨q,r,rfl⟩:=List.exists_cons_of_ne_nil hne;have hu1:=hu.stays hb;obtain⟨b,o,c,u,he,⟨up,uc,rfl⟩,a0,a1,a2,a3,a4⟩:=first_cells hu1;simp only[List.length_cons,Value.slice.injEq]at he;obtain⟨rfl, -,rfl⟩:=he;have HBS:=yH hb.size;have HPM:=yH hu.more;have HPC:=yH (show ∀(W:World),Below w0.heap.size w0 W→∀(a:Addr) (v:Value),w0.cell? a=some v→W.cell? a=some v from fun W hW a v h=>(hW.cell (World.block_lt_of_cell? w0 _ h)).trans h);have HMK:=yH (AsO.mk0 hb (.slice (some ⟨b,o,none⟩) (r.length+1) k) #[.int .i64 q.kind,.string (T q.text),.string (T q.op),.slice up q.word.length uc,.bool q.q]);have HQS:=yH (hsm.get (List.mem_cons_self ..)).1;simp only[List.length_cons]at hk hfew;have HFW:=yH hfew;have HAS:=yH (And.intro (fun h=> @assignO_bare q r h) (And.intro (fun h h2=> @assignO_none q r h h2) (And.intro (fun {n} h h2 h3=> @assignO_name q r n h h2 h3) (fun {n} h h2 h3=> @assignO_some q r n h h2 h3))));have HBT:=yH (show bareT q=(q.kind==1&& !q.q)from rfl);obtain⟨R,hR⟩:∃R,assignO (q::r)=R:=⟨_,rfl⟩;rw[hR]at HAS ⊢;show Calls _ _ #[.agg #[.slice (some ⟨b,o,none⟩) (r.length+1) k]] _ _;obtain⟨kd,hkd⟩:∃x,q.kind=x:=⟨_,rfl⟩;obtain⟨tx,htx⟩:∃x,q.text=x:=⟨_,rfl⟩;obtain⟨s,hs⟩:∃x,T tx=x:=⟨_,rfl⟩;have HTX:=yH (show s.data.toList=tx from by rw[←hs]);obtain⟨s2,hs2⟩:∃x,T q.op=x:=⟨_,rfl⟩;obtain⟨wl,hwl⟩:∃x,q.word.length=x:=⟨_,rfl⟩;obtain⟨qq,hqq⟩:∃x,q.q=x:=⟨_,rfl⟩;obtain⟨N,hN⟩:∃N,r.length+1=N:=⟨_,rfl⟩;have HN:=yH hN;rw[hkd]at a0 HMK HBT;rw[htx]at a1 HMK HQS HAS;rw[hs]at a1 HMK;rw[hs2]at a2 HMK;rw[hwl]at a3 HMK;rw[hqq]at a4 HMK HBT;rw[hN]at HMK hk ⊢;have HCUT:=yH (fun W=>cut2_any s W (by show s.data.size≤_;rw[←Array.length_toList,HTX.out];exact HQS.out));have d0:=fun o1=>cell_alloc a0 o1;have d1:=fun o1=>cell_alloc a1 o1;have d2:=fun o1=>cell_alloc a2 o1;have d3:=fun o1=>cell_alloc a3 o1;have d4:=fun o1=>cell_alloc a4 o1;have e0:=fun o1 o2=>cell_alloc (d0 o1) o2;have e1:=fun o1 o2=>cell_alloc (d1 o1) o2;have e2:=fun o1 o2=>cell_alloc (d2 o1) o2;have e3:=fun o1 o2=>cell_alloc (d3 o1) o2;have e4:=fun o1 o2=>cell_alloc (d4 o1) o2;have n0:(0:Int)<(N:Int):=(by omega);have n1:(1:Int)≤(N:Int):=(by omega);have n2:(N:Int)≤(k:Int):=(by omega);clear hu hu1 hb hne hsm hfew hR hkd htx hs hs2 hwl hqq hN a0 a1 a2 a3 a4 d0 d1 d2 d3 d4
  by_cases h1:kd=1
  case neg=>
    have hk1:(kd !=1)=true:=(by simpa using h1);have HE:=yH (HAS.out.1 (by rw[HBT.out];simp_all));go_enter Tryz.func197,Tryz.ntmps197;go_wp2_with fail
    (try simp only[Exit.inBlock,Exit.then])
    refine bodyPost_ret (ret_assign rfl HMK.out.res rfl rfl) rfl ?_;exact⟨HMK.out.below,by rw[HE.out];rfl⟩
  subst h1
  cases qq with
  |true=>
    have HE:=yH (HAS.out.1 (by rw[HBT.out];simp_all));go_enter Tryz.func197,Tryz.ntmps197;go_wp2_with fail
    (try simp only[Exit.inBlock,Exit.then])
    refine bodyPost_ret (ret_assign rfl HMK.out.res rfl rfl) rfl ?_;exact⟨HMK.out.below,by rw[HE.out];rfl⟩
  |false=>
    have HB:=yH (show bareT q=true from by rw[HBT.out];rfl)
    cases hA:aheadT tx with
    |none=>
      have HE:=yH (HAS.out.2.1 HB.out hA)
      have HCN:=yH (show ∀W,Calls Tryz.prog 199 #[.string s,.string ⟨#[61]⟩] W fun e w'=> ∃a b,e= .returned (.tuple #[.string a,.string b,.bool false])∧Below W.heap.size W w' from fun W=>by
        refine(HCUT.out W).mono ?_;rintro e w' ⟨a,b,f,rfl,hc|hc,hb⟩
        · rw[HTX.out,hA]at hc;exact absurd hc.2.1 (by simp)
        · rw[hc.1];exact⟨a,b,rfl,hb⟩)
      clear hA HCUT;go_enter Tryz.func197,Tryz.ntmps197
      go_wp2_with (first
        |(go_at_call 199;refine(HCN.out _).mono ?_;rintro en w1 ⟨ca,cb,rfl,hb1⟩;have HA1:=yH (HMK.out.new hb1);clear hb1)
        |(refine wpList_store_row (by rfl) 105 (.tmp 2) (.tmp 35) (by rfl) (w.heap.size+1) #[.string ⟨#[]⟩,.slice none 0 0] (by rfl) (by rfl) 105 #[.string ⟨#[]⟩,.slice none 0 0] HA1.out.res assign_info rfl (by simp[Value.oneCell']) ?_))
      (try simp only[Exit.inBlock,Exit.then])
      refine bodyPost_ret (ret_assign rfl (setRow_heap w1 (w.heap.size+1) _ #[.string ⟨#[]⟩,.slice none 0 0] 105 (0,0) HA1.out.res) rfl rfl) rfl ?_;exact⟨below3 HA1.out.below (kept_row0 w1 (w.heap.size+1) _) (fun i hi=>by omega),by rw[HE.out];rfl⟩
    |some na=>
      have HCS:=yH (show ∀W,Calls Tryz.prog 199 #[.string s,.string ⟨#[61]⟩] W fun e w'=>e= .returned (.tuple #[.string (T na),.string (T (restT tx)),.bool true])∧Below W.heap.size W w' from fun W=>by
        refine(HCUT.out W).mono ?_;rintro e w' ⟨a,b,f,rfl,hc|hc,hb⟩
        · rw[HTX.out,hA]at hc
          obtain⟨h1,h2,h3⟩:=hc;rw[h1,h3,show na=a.data.toList by simpa using h2];exact⟨rfl,hb⟩
        · rw[HTX.out,hA]at hc;exact absurd hc.2 (by simp))
      have HNM:=yH (fun W=>name_any (T na) W);have HNE:=yH (show nameT na=nameL (letters (T na))from rfl);obtain⟨nb,hnb⟩:∃nb,nameL (letters (T na))=nb:=⟨_,rfl⟩;rw[hnb]at HNM HNE;have HAH:=yH hA;obtain⟨ca,hca⟩:∃ca,T na=ca:=⟨_,rfl⟩;have HCA:=yH hca;rw[hca]at HNM HCS;clear hA hnb hca HCUT
      cases nb with
      |false=>
        have HE:=yH (HAS.out.2.2.1 HB.out HAH.out HNE.out);go_enter Tryz.func197,Tryz.ntmps197
        go_wp2_with (first
          |(go_at_call 199;refine(HCS.out _).mono ?_;rintro en w1 ⟨rfl,hb1⟩;have HA1:=yH (HMK.out.new hb1);clear hb1)
          |(go_at_call 178;refine(HNM.out _).mono ?_;rintro en w2 ⟨rfl,hb2⟩;have HA2:=yH (HA1.out.new hb2);clear hb2)
          |(refine wpList_store_row (by rfl) 105 (.tmp 2) (.tmp 35) (by rfl) (w.heap.size+1) #[.string ⟨#[]⟩,.slice none 0 0] (by rfl) (by rfl) 105 #[.string ⟨#[]⟩,.slice none 0 0] HA2.out.res assign_info rfl (by simp[Value.oneCell']) ?_))
        (try simp only[Exit.inBlock,Exit.then])
        refine bodyPost_ret (ret_assign rfl (setRow_heap w2 (w.heap.size+1) _ #[.string ⟨#[]⟩,.slice none 0 0] 105 (0,0) HA2.out.res) rfl rfl) rfl ?_;exact⟨below3 HA2.out.below (kept_row0 w2 (w.heap.size+1) _) (fun i hi=>by omega),by rw[HE.out];rfl⟩
      |true=>
        have HE:=yH (HAS.out.2.2.2 HB.out HAH.out HNE.out);obtain⟨rs,hrs⟩:∃rs,restT tx=rs:=⟨_,rfl⟩;rw[hrs]at HE HCS;clear hrs;obtain⟨dss,dl,dp,dc,dn⟩:=HPM.out;have HDS:=yH (And.intro dl (And.intro dp (And.intro dc dn)));clear dl dp dc dn
        by_cases hrs0:rs= []
        case neg=>
          have nl:¬(1+(N-1):Int)=0:=by omega
          by_cases hk1:k=1
          · subst hk1
            obtain rfl:N=1:=(by omega);have q4:(1-1==0)=true:=rfl;have HDSC:=yH (show ∀(W:World),Below w0.heap.size w0 W→∀(j:Nat) (u:Value),dss.flatten[j]? =some u→W.cell? ((⟨b,o,none⟩:Addr).add j)=some u from fun W hW j u hj=>by have:=(List.getElem?_eq_some_iff.1 hj).1;rw[flat_len HDS.out.2.2.1,HDS.out.1]at this;have:=HN.out;omega)
            have hne:rs.isEmpty=false:=by cases rs with|nil=>exact absurd rfl hrs0|cons a b=>rfl
            have HR0:=yH hrs0;clear hrs0;go_enter Tryz.func197,Tryz.ntmps197
            go_wp2_with (first
              |(go_at_call 199;refine(HCS.out _).mono ?_;rintro en w1 ⟨rfl,hb1⟩;have HA1:=yH (HMK.out.new hb1);clear hb1)
              |(go_at_call 178;refine(HNM.out _).mono ?_;rintro en w2 ⟨rfl,hb2⟩;have HA2:=yH (HA1.out.new hb2);have g0:w2.cell? ⟨w.heap.size,0,none⟩=some (.slice (some ⟨b,o,none⟩) 1 1):=(by rw[cell_plain HA2.out.word];rfl);clear hb2)
              |(refine wpList_one elPart (by rfl) (.tmp 40) (by rfl) _ (pcells ⟨1,rs,[],[],false⟩ (.slice none 0 0)) rfl (part_cel (W:=w0) (q:=⟨1,rs,[],[],false⟩) (PsAt.nil w0 0)) (by rfl) ?_)
              |(at_builtin;refine wpList_push elPart (p:=none) (c:=0) (css:= []) (l:=([]:List Pt)) (F:=fun _=>False) (by rfl) (.tmp 38) (.tmp 41) (by rfl) (RowG.nil w0 w2 113 5 PartP (w.heap.size+3)) (part_cel (W:=w0) (q:=⟨1,rs,[],[],false⟩) (PsAt.nil w0 0)) (NewAt.of0 (w0:=w0) (w:=w2) (B:=w2.heap.size) (P:=fun W=>PartP W (pcells ⟨1,rs,[],[],false⟩ (.slice none 0 0)) ⟨1,rs,[],[],false⟩) fun W _=>⟨_,rfl,PsAt.nil W 0⟩) (gS.1 HA2.out.part).1 (fun k hk=>by simp[Value.ownBlock]at hk) (by simp) (by rfl) (by rfl) (gS.1 HA2.out.part).1 ?_;intro p3 c3 F3 w3 hr3 hF3 hat3 hk3;have HR3:=yH (RowG.nofar hr3 (fun k hk=>by rcases hF3 k hk with h|h;exact h;omega));have HA3:=yH (HA2.out.turn HBS.out hk3 (fun k hk=>by simp[Value.ownBlock]at hk));have g3:w3.cell? ⟨w.heap.size,0,none⟩=some (.slice (some ⟨b,o,none⟩) 1 1):=(by rw[cell_plain HA3.out.word];rfl);clear hr3 hF3 hat3 hk3)
              |(at_builtin;refine wpList_adds (by rfl) (.tmp 43) (.tmp 46) (by rfl) (ad:=⟨b,o,none⟩) (m:=0) (n:=1) (qs:=r) (dss:=dss) HR3.out (by rfl) HDS.out.1 HDS.out.2.1 HDS.out.2.2.1 (fun j u hj=>HDSC.out _ HA3.out.base j u hj) (by rfl) (by rfl) (by have:=HN.out;omega) (by have:=HFW.out;have:=HN.out;omega) (gS.1 HA3.out.part).1 ?_;intro p4 c4 w4 hp4 hk4 _;have HP4:=yH hp4;have HA4:=yH (HA3.out.turn HBS.out hk4 (fun k hk=>(World.ownsRow.lt HR3.out.own k hk).1));clear hp4 hk4)
              |(refine wpList_store_row (by rfl) 105 (.tmp 2) (.tmp 58) (by rfl) (w.heap.size+1) #[.string ca,(.slice p4 (1+0) c4)] (by rfl) (by rfl) 105 #[.string ⟨#[]⟩,.slice none 0 0] HA4.out.res assign_info rfl (by simp[Value.oneCell']) ?_))
            (try simp only[Exit.inBlock,Exit.then])
            refine bodyPost_ret (ret_assign rfl (setRow_heap w4 (w.heap.size+1) _ #[.string ca,.slice p4 (1+0) c4] 105 (0,0) HA4.out.res) rfl rfl) rfl ?_;have hkz:=kept_row0 w4 (w.heap.size+1) #[.string ca,.slice p4 (1+0) c4];refine⟨below3 HA4.out.below hkz (fun i hi=>by omega),?_⟩;rw[HE.out,if_neg (fun h=>HR0.out h.1),if_neg HR0.out];exact⟨_,_,_,by rw[HCA.out];rfl,(((HP4.out).ps (by have:=HFW.out;have:=HN.out;simp[maxLen];try omega)).kept hkz (fun i h1 h2=>by omega)).base (by omega)⟩
          · have q4:(k-1==0)=false:=by
              have:¬k-1=0:=by omega
              simpa using this
            have q5:¬k=1:=hk1;have q6:(1:Int)<(k:Int):=(by omega);have HDSC:=yH (show ∀(W:World),Below w0.heap.size w0 W→∀(j:Nat) (u:Value),dss.flatten[j]? =some u→W.cell? ((⟨b,o+5,none⟩:Addr).add j)=some u from fun W hW j u hj=>by have h:=HPC.out W hW _ _ (HDS.out.2.2.2 j u hj);unfold Addr.add;split<;>simp_all)
            have hne:rs.isEmpty=false:=by cases rs with|nil=>exact absurd rfl hrs0|cons a b=>rfl
            have HR0:=yH hrs0;clear hrs0;go_enter Tryz.func197,Tryz.ntmps197
            go_wp2_with (first
              |(go_at_call 199;refine(HCS.out _).mono ?_;rintro en w1 ⟨rfl,hb1⟩;have HA1:=yH (HMK.out.new hb1);clear hb1)
              |(go_at_call 178;refine(HNM.out _).mono ?_;rintro en w2 ⟨rfl,hb2⟩;have HA2:=yH (HA1.out.new hb2);have g0:w2.cell? ⟨w.heap.size,0,none⟩=some (.slice (some ⟨b,o,none⟩) N k):=(by rw[cell_plain HA2.out.word];rfl);clear hb2)
              |(refine wpList_one elPart (by rfl) (.tmp 40) (by rfl) _ (pcells ⟨1,rs,[],[],false⟩ (.slice none 0 0)) rfl (part_cel (W:=w0) (q:=⟨1,rs,[],[],false⟩) (PsAt.nil w0 0)) (by rfl) ?_)
              |(at_builtin;refine wpList_push elPart (p:=none) (c:=0) (css:= []) (l:=([]:List Pt)) (F:=fun _=>False) (by rfl) (.tmp 38) (.tmp 41) (by rfl) (RowG.nil w0 w2 113 5 PartP (w.heap.size+3)) (part_cel (W:=w0) (q:=⟨1,rs,[],[],false⟩) (PsAt.nil w0 0)) (NewAt.of0 (w0:=w0) (w:=w2) (B:=w2.heap.size) (P:=fun W=>PartP W (pcells ⟨1,rs,[],[],false⟩ (.slice none 0 0)) ⟨1,rs,[],[],false⟩) fun W _=>⟨_,rfl,PsAt.nil W 0⟩) (gS.1 HA2.out.part).1 (fun k hk=>by simp[Value.ownBlock]at hk) (by simp) (by rfl) (by rfl) (gS.1 HA2.out.part).1 ?_;intro p3 c3 F3 w3 hr3 hF3 hat3 hk3;have HR3:=yH (RowG.nofar hr3 (fun k hk=>by rcases hF3 k hk with h|h;exact h;omega));have HA3:=yH (HA2.out.turn HBS.out hk3 (fun k hk=>by simp[Value.ownBlock]at hk));have g3:w3.cell? ⟨w.heap.size,0,none⟩=some (.slice (some ⟨b,o,none⟩) N k):=(by rw[cell_plain HA3.out.word];rfl);clear hr3 hF3 hat3 hk3)
              |(at_builtin;refine wpList_adds (by rfl) (.tmp 43) (.tmp 46) (by rfl) (ad:=⟨b,o+5,none⟩) (m:=N-1) (n:=1) (qs:=r) (dss:=dss) HR3.out (by rfl) HDS.out.1 HDS.out.2.1 HDS.out.2.2.1 (fun j u hj=>HDSC.out _ HA3.out.base j u hj) (by rfl) (by rfl) (by have:=HN.out;omega) (by have:=HFW.out;have:=HN.out;omega) (gS.1 HA3.out.part).1 ?_;intro p4 c4 w4 hp4 hk4 _;have HP4:=yH hp4;have HA4:=yH (HA3.out.turn HBS.out hk4 (fun k hk=>(World.ownsRow.lt HR3.out.own k hk).1));clear hp4 hk4)
              |(refine wpList_store_row (by rfl) 105 (.tmp 2) (.tmp 58) (by rfl) (w.heap.size+1) #[.string ca,(.slice p4 (1+(N-1)) c4)] (by rfl) (by rfl) 105 #[.string ⟨#[]⟩,.slice none 0 0] HA4.out.res assign_info rfl (by simp[Value.oneCell']) ?_))
            (try simp only[Exit.inBlock,Exit.then])
            refine bodyPost_ret (ret_assign rfl (setRow_heap w4 (w.heap.size+1) _ #[.string ca,.slice p4 (1+(N-1)) c4] 105 (0,0) HA4.out.res) rfl rfl) rfl ?_;have hkz:=kept_row0 w4 (w.heap.size+1) #[.string ca,.slice p4 (1+(N-1)) c4];refine⟨below3 HA4.out.below hkz (fun i hi=>by omega),?_⟩;rw[HE.out,if_neg (fun h=>HR0.out h.1),if_neg HR0.out];exact⟨_,_,_,by rw[HCA.out];rfl,(((HP4.out).ps (by have:=HFW.out;have:=HN.out;simp[maxLen];try omega)).kept hkz (fun i h1 h2=>by omega)).base (by omega)⟩
        case pos=>
          subst hrs0;rw[show T ([]:List UInt8)=⟨#[]⟩from rfl]at HCS
          by_cases hr0:r= []
          · have HR0:=yH hr0
            obtain rfl:N=1:=(by have:=HN.out;rw[hr0]at this;simpa using this.symm);clear hr0
            by_cases hk1:k=1
            · subst hk1
              have q4:(1-1==0)=true:=rfl;have HDSC:=yH (show ∀(W:World),Below w0.heap.size w0 W→∀(j:Nat) (u:Value),dss.flatten[j]? =some u→W.cell? ((⟨b,o,none⟩:Addr).add j)=some u from fun W hW j u hj=>by have:=(List.getElem?_eq_some_iff.1 hj).1;rw[flat_len HDS.out.2.2.1,HDS.out.1]at this;have:=HN.out;omega);go_enter Tryz.func197,Tryz.ntmps197
              go_wp2_with (first
                |(go_at_call 199;refine(HCS.out _).mono ?_;rintro en w1 ⟨rfl,hb1⟩;have HA1:=yH (HMK.out.new hb1);clear hb1)
                |(go_at_call 178;refine(HNM.out _).mono ?_;rintro en w2 ⟨rfl,hb2⟩;have HA2:=yH (HA1.out.new hb2);have g0:w2.cell? ⟨w.heap.size,0,none⟩=some (.slice (some ⟨b,o,none⟩) 1 1):=(by rw[cell_plain HA2.out.word];rfl);clear hb2)
                |(at_builtin;refine wpList_adds (by rfl) (.tmp 43) (.tmp 46) (by rfl) (ad:=⟨b,o,none⟩) (m:=0) (n:=0) (qs:=r) (dss:=dss) (p:=none) (c:=0) (css:= []) (ps:=([]:List Pt)) (RowG.nil w0 w2 113 5 PartP (w.heap.size+3)) (by rfl) HDS.out.1 HDS.out.2.1 HDS.out.2.2.1 (fun j u hj=>HDSC.out _ HA2.out.base j u hj) (by rfl) (by rfl) (by have:=HN.out;omega) (by have:=HFW.out;have:=HN.out;omega) (gS.1 HA2.out.part).1 ?_;intro p4 c4 w4 hp4 hk4 hnil;obtain⟨rfl,rfl⟩:=hnil rfl rfl rfl rfl;have HA4:=yH (HA2.out.turn HBS.out hk4 (fun k hk=>by simp[Value.ownBlock]at hk));clear hp4 hk4 hnil)
                |(refine wpList_one elPart (by rfl) (.tmp 52) (by rfl) _ (pcells ⟨1,[],[],[],true⟩ (.slice none 0 0)) rfl (part_cel (W:=w0) (q:=⟨1,[],[],[],true⟩) (PsAt.nil w0 0)) (by rfl) ?_)
                |(at_builtin;refine wpList_push elPart (p:=none) (c:=0) (css:= []) (l:=([]:List Pt)) (F:=fun _=>False) (by rfl) (.tmp 51) (.tmp 53) (by rfl) (RowG.nil w0 w4 113 5 PartP (w.heap.size+3)) (part_cel (W:=w0) (q:=⟨1,[],[],[],true⟩) (PsAt.nil w0 0)) (NewAt.of0 (w0:=w0) (w:=w4) (B:=w4.heap.size) (P:=fun W=>PartP W (pcells ⟨1,[],[],[],true⟩ (.slice none 0 0)) ⟨1,[],[],[],true⟩) fun W _=>⟨_,rfl,PsAt.nil W 0⟩) (gS.1 HA4.out.part).1 (fun k hk=>by simp[Value.ownBlock]at hk) (by simp) (by rfl) (by rfl) (gS.1 HA4.out.part).1 ?_;intro p5 c5 F5 w5 hr5 hF5 hat5 hk5;have HR5:=yH (RowG.nofar hr5 (fun k hk=>by rcases hF5 k hk with h|h;exact h;omega));have HA5:=yH (HA4.out.turn HBS.out hk5 (fun k hk=>by simp[Value.ownBlock]at hk));clear hr5 hF5 hat5 hk5)
                |(refine wpList_store_row (by rfl) 105 (.tmp 2) (.tmp 58) (by rfl) (w.heap.size+1) #[.string ca,(.slice p5 1 c5)] (by rfl) (by rfl) 105 #[.string ⟨#[]⟩,.slice none 0 0] HA5.out.res assign_info rfl (by simp[Value.oneCell']) ?_))
              (try simp only[Exit.inBlock,Exit.then])
              refine bodyPost_ret (ret_assign rfl (setRow_heap w5 (w.heap.size+1) _ #[.string ca,.slice p5 1 c5] 105 (0,0) HA5.out.res) rfl rfl) rfl ?_;have hkz:=kept_row0 w5 (w.heap.size+1) #[.string ca,.slice p5 1 c5];refine⟨below3 HA5.out.below hkz (fun i hi=>by omega),?_⟩;rw[HE.out,if_pos (by simp[HR0.out])];exact⟨_,_,_,by rw[HCA.out];rfl,((((show PaR w0 w5 (w.heap.size+3) (.slice p5 1 c5) [⟨1,[],[],[],true⟩]from ⟨_,HR5.out⟩)).ps (by have:=HFW.out;have:=HN.out;simp[maxLen];try omega)).kept hkz (fun i h1 h2=>by omega)).base (by omega)⟩
            · have q4:(k-1==0)=false:=by
                have:¬k-1=0:=by omega
                simpa using this
              have q5:¬k=1:=hk1;have q6:(1:Int)<(k:Int):=(by omega);have HDSC:=yH (show ∀(W:World),Below w0.heap.size w0 W→∀(j:Nat) (u:Value),dss.flatten[j]? =some u→W.cell? ((⟨b,o+5,none⟩:Addr).add j)=some u from fun W hW j u hj=>by have h:=HPC.out W hW _ _ (HDS.out.2.2.2 j u hj);unfold Addr.add;split<;>simp_all);go_enter Tryz.func197,Tryz.ntmps197
              go_wp2_with (first
                |(go_at_call 199;refine(HCS.out _).mono ?_;rintro en w1 ⟨rfl,hb1⟩;have HA1:=yH (HMK.out.new hb1);clear hb1)
                |(go_at_call 178;refine(HNM.out _).mono ?_;rintro en w2 ⟨rfl,hb2⟩;have HA2:=yH (HA1.out.new hb2);have g0:w2.cell? ⟨w.heap.size,0,none⟩=some (.slice (some ⟨b,o,none⟩) 1 k):=(by rw[cell_plain HA2.out.word];rfl);clear hb2)
                |(at_builtin;refine wpList_adds (by rfl) (.tmp 43) (.tmp 46) (by rfl) (ad:=⟨b,o+5,none⟩) (m:=0) (n:=0) (qs:=r) (dss:=dss) (p:=none) (c:=0) (css:= []) (ps:=([]:List Pt)) (RowG.nil w0 w2 113 5 PartP (w.heap.size+3)) (by rfl) HDS.out.1 HDS.out.2.1 HDS.out.2.2.1 (fun j u hj=>HDSC.out _ HA2.out.base j u hj) (by rfl) (by rfl) (by have:=HN.out;omega) (by have:=HFW.out;have:=HN.out;omega) (gS.1 HA2.out.part).1 ?_;intro p4 c4 w4 hp4 hk4 hnil;obtain⟨rfl,rfl⟩:=hnil rfl rfl rfl rfl;have HA4:=yH (HA2.out.turn HBS.out hk4 (fun k hk=>by simp[Value.ownBlock]at hk));clear hp4 hk4 hnil)
                |(refine wpList_one elPart (by rfl) (.tmp 52) (by rfl) _ (pcells ⟨1,[],[],[],true⟩ (.slice none 0 0)) rfl (part_cel (W:=w0) (q:=⟨1,[],[],[],true⟩) (PsAt.nil w0 0)) (by rfl) ?_)
                |(at_builtin;refine wpList_push elPart (p:=none) (c:=0) (css:= []) (l:=([]:List Pt)) (F:=fun _=>False) (by rfl) (.tmp 51) (.tmp 53) (by rfl) (RowG.nil w0 w4 113 5 PartP (w.heap.size+3)) (part_cel (W:=w0) (q:=⟨1,[],[],[],true⟩) (PsAt.nil w0 0)) (NewAt.of0 (w0:=w0) (w:=w4) (B:=w4.heap.size) (P:=fun W=>PartP W (pcells ⟨1,[],[],[],true⟩ (.slice none 0 0)) ⟨1,[],[],[],true⟩) fun W _=>⟨_,rfl,PsAt.nil W 0⟩) (gS.1 HA4.out.part).1 (fun k hk=>by simp[Value.ownBlock]at hk) (by simp) (by rfl) (by rfl) (gS.1 HA4.out.part).1 ?_;intro p5 c5 F5 w5 hr5 hF5 hat5 hk5;have HR5:=yH (RowG.nofar hr5 (fun k hk=>by rcases hF5 k hk with h|h;exact h;omega));have HA5:=yH (HA4.out.turn HBS.out hk5 (fun k hk=>by simp[Value.ownBlock]at hk));clear hr5 hF5 hat5 hk5)
                |(refine wpList_store_row (by rfl) 105 (.tmp 2) (.tmp 58) (by rfl) (w.heap.size+1) #[.string ca,(.slice p5 1 c5)] (by rfl) (by rfl) 105 #[.string ⟨#[]⟩,.slice none 0 0] HA5.out.res assign_info rfl (by simp[Value.oneCell']) ?_))
              (try simp only[Exit.inBlock,Exit.then])
              refine bodyPost_ret (ret_assign rfl (setRow_heap w5 (w.heap.size+1) _ #[.string ca,.slice p5 1 c5] 105 (0,0) HA5.out.res) rfl rfl) rfl ?_;have hkz:=kept_row0 w5 (w.heap.size+1) #[.string ca,.slice p5 1 c5];refine⟨below3 HA5.out.below hkz (fun i hi=>by omega),?_⟩;rw[HE.out,if_pos (by simp[HR0.out])];exact⟨_,_,_,by rw[HCA.out];rfl,((((show PaR w0 w5 (w.heap.size+3) (.slice p5 1 c5) [⟨1,[],[],[],true⟩]from ⟨_,HR5.out⟩)).ps (by have:=HFW.out;have:=HN.out;simp[maxLen];try omega)).kept hkz (fun i h1 h2=>by omega)).base (by omega)⟩
          · have HR0:=yH hr0
            have hN2:2≤N:=(by have:=HN.out;have:=List.length_pos_iff.2 hr0;omega);have hk1:¬k=1:=(by omega);clear hr0
            have q4:(k-1==0)=false:=by
              have:¬k-1=0:=by omega
              simpa using this
            have q5:¬k=1:=hk1;have q6:(1:Int)<(k:Int):=(by omega);have z1:¬N-1=0:=(by omega);have z2:¬((N-1:Nat):Int)=0:=(by omega);have z3:(((N-1:Nat):Int)==0)=false:=(by simpa using z1);clear hN2;have HDSC:=yH (show ∀(W:World),Below w0.heap.size w0 W→∀(j:Nat) (u:Value),dss.flatten[j]? =some u→W.cell? ((⟨b,o+5,none⟩:Addr).add j)=some u from fun W hW j u hj=>by have h:=HPC.out W hW _ _ (HDS.out.2.2.2 j u hj);unfold Addr.add;split<;>simp_all);go_enter Tryz.func197,Tryz.ntmps197
            go_wp2_with (first
              |(go_at_call 199;refine(HCS.out _).mono ?_;rintro en w1 ⟨rfl,hb1⟩;have HA1:=yH (HMK.out.new hb1);clear hb1)
              |(go_at_call 178;refine(HNM.out _).mono ?_;rintro en w2 ⟨rfl,hb2⟩;have HA2:=yH (HA1.out.new hb2);have g0:w2.cell? ⟨w.heap.size,0,none⟩=some (.slice (some ⟨b,o,none⟩) N k):=(by rw[cell_plain HA2.out.word];rfl);clear hb2)
              |(at_builtin;refine wpList_adds (by rfl) (.tmp 43) (.tmp 46) (by rfl) (ad:=⟨b,o+5,none⟩) (m:=N-1) (n:=0) (qs:=r) (dss:=dss) (p:=none) (c:=0) (css:= []) (ps:=([]:List Pt)) (RowG.nil w0 w2 113 5 PartP (w.heap.size+3)) (by rfl) HDS.out.1 HDS.out.2.1 HDS.out.2.2.1 (fun j u hj=>HDSC.out _ HA2.out.base j u hj) (by rfl) (by rfl) (by have:=HN.out;omega) (by have:=HFW.out;have:=HN.out;omega) (gS.1 HA2.out.part).1 ?_;intro p4 c4 w4 hp4 hk4 _;rw[Nat.zero_add]at hp4;have HP4:=yH hp4;have HA4:=yH (HA2.out.turn HBS.out hk4 (fun k hk=>by simp[Value.ownBlock]at hk));clear hp4 hk4)
              |(refine wpList_store_row (by rfl) 105 (.tmp 2) (.tmp 58) (by rfl) (w.heap.size+1) #[.string ca,(.slice p4 (N-1) c4)] (by rfl) (by rfl) 105 #[.string ⟨#[]⟩,.slice none 0 0] HA4.out.res assign_info rfl (by simp[Value.oneCell']) ?_))
            (try simp only[Exit.inBlock,Exit.then])
            refine bodyPost_ret (ret_assign rfl (setRow_heap w4 (w.heap.size+1) _ #[.string ca,.slice p4 (N-1) c4] 105 (0,0) HA4.out.res) rfl rfl) rfl ?_;have hkz:=kept_row0 w4 (w.heap.size+1) #[.string ca,.slice p4 (N-1) c4];refine⟨below3 HA4.out.below hkz (fun i hi=>by omega),?_⟩;rw[HE.out,if_neg (fun h=>HR0.out h.2),if_pos trivial];exact⟨_,_,_,by rw[HCA.out];rfl,(((HP4.out).ps (by have:=HFW.out;have:=HN.out;simp[maxLen];try omega)).kept hkz (fun i h1 h2=>by omega)).base (by omega)⟩
structure Sv where
  pw:Option Addr
  cw:Nat
  cssw:List (List Value)
  Fw:Nat→Prop
  pa:Option Addr
  ca:Nat
  cssa:List (List Value)
  Fa:Nat→Prop
  pr:Option Addr
  cr:Nat
  cssr:List (List Value)
  Fr:Nat→Prop
def siC (V:Sv) (n:Nd):List Value:=ndC ⟨#[99,109,100]⟩ ⟨#[]⟩ (.slice V.pw n.words.length V.cw) (.slice none 0 0) (.slice V.pa n.assigns.length V.ca) (.slice V.pr n.redirs.length V.cr)
structure SiO (w0 w wr:World) (X Y:Nat) (n:Nd) (V:Sv) (M:Nat) (S:PS):Prop where
  max:M≤5000
  box:BxO w0 w wr X Y (siC V n).toArray 44 S
  node:n.op= [99,109,100]∧n.name= []∧n.kids= []∧n.pats= []
  roww:WRow w0 wr (Y+1) (.slice V.pw n.words.length V.cw) V.cssw n.words V.Fw
  rowa:RowG w0 wr 105 2 PairP (Y+1) (.slice V.pa n.assigns.length V.ca) V.cssa n.assigns V.Fa
  rowr:RowG w0 wr 103 2 PairP (Y+1) (.slice V.pr n.redirs.length V.cr) V.cssr n.redirs V.Fr
  apwa:∀k,(V.Fa k∨(Value.slice V.pa n.assigns.length V.ca).ownBlock=some k)→(Value.slice V.pw n.words.length V.cw).ownBlock≠some k
  apwr:∀k,(V.Fr k∨(Value.slice V.pr n.redirs.length V.cr).ownBlock=some k)→(Value.slice V.pw n.words.length V.cw).ownBlock≠some k
  apaw:∀k,(V.Fw k∨(Value.slice V.pw n.words.length V.cw).ownBlock=some k)→(Value.slice V.pa n.assigns.length V.ca).ownBlock≠some k
  apar:∀k,(V.Fr k∨(Value.slice V.pr n.redirs.length V.cr).ownBlock=some k)→(Value.slice V.pa n.assigns.length V.ca).ownBlock≠some k
  aprw:∀k,(V.Fw k∨(Value.slice V.pw n.words.length V.cw).ownBlock=some k)→(Value.slice V.pr n.redirs.length V.cr).ownBlock≠some k
  apra:∀k,(V.Fa k∨(Value.slice V.pa n.assigns.length V.ca).ownBlock=some k)→(Value.slice V.pr n.redirs.length V.cr).ownBlock≠some k
  feww:n.words.length+S.ts.length≤M
  fewa:n.assigns.length+S.ts.length≤M
  fewr:n.redirs.length+S.ts.length≤M
section
variable {w0 w wr w1 : World} {X Y : Nat} {n : Nd} {V : Sv} {M M' : Nat} {S S' : PS}
theorem SiO.step (h:SiO w0 w wr X Y n V M S) (hX:X<w.heap.size) (hs:PStep w0 wr w1 X S') (hM:M'≤5000) (hl:S'.ts.length+M≤S.ts.length+M'):SiO w0 w w1 X Y n V M' S':=by
  have hb:=h.box.base
  exact { h with
    max:=hM
    box:=h.box.step hX hs
    roww:=h.roww.kept hs.2 (fun k hk=>by have:=(h.roww.lt k hk).1;omega)
    rowa:=h.rowa.kept hs.2 (fun k hk=>by have:=(h.rowa.lt k hk).1;omega)
    rowr:=h.rowr.kept hs.2 (fun k hk=>by have:=(h.rowr.lt k hk).1;omega)
    feww:=by have:=h.feww;omega
    fewa:=by have:=h.fewa;omega
    fewr:=by have:=h.fewr;omega }
theorem SiO.new (h:SiO w0 w wr X Y n V M S) (hX:X<w.heap.size) (hb:Below wr.heap.size wr w1):SiO w0 w w1 X Y n V M S:=h.step hX ⟨h.box.pr.new hb,Kept.of_below hb⟩ h.max (Nat.le_refl _)
theorem SiO.pushw {C:Nat} {p':Option Addr} {c':Nat} {cs:List Value} {y:List Pt} {F':Nat→Prop} (h:SiO w0 w wr X Y n V M S) (hM:M+1≤5000) (hX:X<w.heap.size) (hX0:w0.heap.size≤X)
    (hCa:∀k,(Value.slice V.pa n.assigns.length V.ca).ownBlock=some k→k<C)
    (hCr:∀k,(Value.slice V.pr n.redirs.length V.cr).ownBlock=some k→k<C)
    (hr:WRow w0 w1 (Y+1) (.slice p' (n.words.length+1) c') (V.cssw++ [cs]) (n.words++ [y]) F') (hF:∀k,F' k→V.Fw k∨(C≤k∧k<wr.heap.size)) (hat:(Value.slice p' (n.words.length+1) c').ownBlock=(Value.slice V.pw n.words.length V.cw).ownBlock∨∀k,(Value.slice p' (n.words.length+1) c').ownBlock=some k→wr.heap.size≤k)
    (hk:Kept (fun k=>(Value.slice V.pw n.words.length V.cw).ownBlock=some k) wr w1):
    SiO w0 w (w1.setCell ⟨Y,3,none⟩ (.slice p' (n.words.length+1) c')) X Y { n with words:=n.words++ [y] } { V with pw:=p',cw:=c',cssw:=V.cssw++ [cs],Fw:=F' } (M+1) S:=by
  have hb:=h.box.base;have hn:(n.words++ [y]).length=n.words.length+1:=(by rw[List.length_append];rfl);have hown:∀k,(Value.slice V.pw n.words.length V.cw).ownBlock=some k→Y<k:=fun k hk=>(h.roww.lt k (.inr hk)).1;have hk2:Kept (fun k=>k=Y) w1 (w1.setCell ⟨Y,3,none⟩ (.slice p' (n.words.length+1) c')):=(Kept.refl (fun k=>k=Y) w1).setCell (p:=⟨Y,3,none⟩) (.inl rfl) _;refine { max:=hM,box:= ?_,node:=h.node,roww:= ?_,rowa:= ?_,rowr:= ?_,apwa:= ?_,apwr:= ?_,apaw:= ?_,apar:= ?_,aprw:= ?_,apra:= ?_,feww:= ?_,fewa:= ?_,fewr:= ?_ }
  · have:=(h.box.turn hX hX0 hk (fun k hk=>hown k hk)).set hX hX0 3 (.slice p' (n.words.length+1) c')
    simp only[siC,hn];exact this
  · simp only[hn]
    exact hr.kept hk2 fun k hk'=>by have:=(hr.lt k hk').1;omega
  · exact(h.rowa.kept hk fun k hk'=>h.apwa k hk').kept hk2 fun k hk'=>by have:=(h.rowa.lt k hk').1;omega
  · exact(h.rowr.kept hk fun k hk'=>h.apwr k hk').kept hk2 fun k hk'=>by have:=(h.rowr.lt k hk').1;omega
  · simp only[hn]
    exact ap_push h.apwa (fun k hk'=>(h.rowa.lt k hk').2) hat
  · simp only[hn]
    exact ap_push h.apwr (fun k hk'=>(h.rowr.lt k hk').2) hat
  · simp only[hn]
    exact ap_pushed h.apaw hF (fun k hk'=>⟨hCa k hk',(h.rowa.lt k (.inr hk')).2⟩) hat
  · exact h.apar
  · simp only[hn]
    exact ap_pushed h.aprw hF (fun k hk'=>⟨hCr k hk',(h.rowr.lt k (.inr hk')).2⟩) hat
  · exact h.apra
  · simp only[hn];have:=h.feww;omega
  · exact Nat.le_succ_of_le h.fewa
  · exact Nat.le_succ_of_le h.fewr
theorem SiO.pusha {C:Nat} {p':Option Addr} {c':Nat} {cs:List Value} {y:List UInt8×List Pt} {F':Nat→Prop} (h:SiO w0 w wr X Y n V M S) (hM:M+1≤5000) (hX:X<w.heap.size) (hX0:w0.heap.size≤X)
    (hCw:∀k,(Value.slice V.pw n.words.length V.cw).ownBlock=some k→k<C)
    (hCr:∀k,(Value.slice V.pr n.redirs.length V.cr).ownBlock=some k→k<C)
    (hr:RowG w0 w1 105 2 PairP (Y+1) (.slice p' (n.assigns.length+1) c') (V.cssa++ [cs]) (n.assigns++ [y]) F') (hF:∀k,F' k→V.Fa k∨(C≤k∧k<wr.heap.size)) (hat:(Value.slice p' (n.assigns.length+1) c').ownBlock=(Value.slice V.pa n.assigns.length V.ca).ownBlock∨∀k,(Value.slice p' (n.assigns.length+1) c').ownBlock=some k→wr.heap.size≤k)
    (hk:Kept (fun k=>(Value.slice V.pa n.assigns.length V.ca).ownBlock=some k) wr w1):
    SiO w0 w (w1.setCell ⟨Y,5,none⟩ (.slice p' (n.assigns.length+1) c')) X Y { n with assigns:=n.assigns++ [y] } { V with pa:=p',ca:=c',cssa:=V.cssa++ [cs],Fa:=F' } (M+1) S:=by
  have hb:=h.box.base;have hn:(n.assigns++ [y]).length=n.assigns.length+1:=(by rw[List.length_append];rfl);have hown:∀k,(Value.slice V.pa n.assigns.length V.ca).ownBlock=some k→Y<k:=fun k hk=>(h.rowa.lt k (.inr hk)).1;have hk2:Kept (fun k=>k=Y) w1 (w1.setCell ⟨Y,5,none⟩ (.slice p' (n.assigns.length+1) c')):=(Kept.refl (fun k=>k=Y) w1).setCell (p:=⟨Y,5,none⟩) (.inl rfl) _;refine { max:=hM,box:= ?_,node:=h.node,roww:= ?_,rowa:= ?_,rowr:= ?_,apwa:= ?_,apwr:= ?_,apaw:= ?_,apar:= ?_,aprw:= ?_,apra:= ?_,feww:= ?_,fewa:= ?_,fewr:= ?_ }
  · have:=(h.box.turn hX hX0 hk (fun k hk=>hown k hk)).set hX hX0 5 (.slice p' (n.assigns.length+1) c')
    simp only[siC,hn];exact this
  · exact(h.roww.kept hk fun k hk'=>h.apaw k hk').kept hk2 fun k hk'=>by have:=(h.roww.lt k hk').1;omega
  · simp only[hn]
    exact hr.kept hk2 fun k hk'=>by have:=(hr.lt k hk').1;omega
  · exact(h.rowr.kept hk fun k hk'=>h.apar k hk').kept hk2 fun k hk'=>by have:=(h.rowr.lt k hk').1;omega
  · simp only[hn]
    exact ap_pushed h.apwa hF (fun k hk'=>⟨hCw k hk',(h.roww.lt k (.inr hk')).2⟩) hat
  · exact h.apwr
  · simp only[hn]
    exact ap_push h.apaw (fun k hk'=>(h.roww.lt k hk').2) hat
  · simp only[hn]
    exact ap_push h.apar (fun k hk'=>(h.rowr.lt k hk').2) hat
  · exact h.aprw
  · simp only[hn]
    exact ap_pushed h.apra hF (fun k hk'=>⟨hCr k hk',(h.rowr.lt k (.inr hk')).2⟩) hat
  · exact Nat.le_succ_of_le h.feww
  · simp only[hn];have:=h.fewa;omega
  · exact Nat.le_succ_of_le h.fewr
theorem SiO.pushr {C:Nat} {p':Option Addr} {c':Nat} {cs:List Value} {y:List UInt8×List Pt} {F':Nat→Prop} (h:SiO w0 w wr X Y n V M S) (hM:M+1≤5000) (hX:X<w.heap.size) (hX0:w0.heap.size≤X)
    (hCw:∀k,(Value.slice V.pw n.words.length V.cw).ownBlock=some k→k<C)
    (hCa:∀k,(Value.slice V.pa n.assigns.length V.ca).ownBlock=some k→k<C)
    (hr:RowG w0 w1 103 2 PairP (Y+1) (.slice p' (n.redirs.length+1) c') (V.cssr++ [cs]) (n.redirs++ [y]) F') (hF:∀k,F' k→V.Fr k∨(C≤k∧k<wr.heap.size)) (hat:(Value.slice p' (n.redirs.length+1) c').ownBlock=(Value.slice V.pr n.redirs.length V.cr).ownBlock∨∀k,(Value.slice p' (n.redirs.length+1) c').ownBlock=some k→wr.heap.size≤k)
    (hk:Kept (fun k=>(Value.slice V.pr n.redirs.length V.cr).ownBlock=some k) wr w1):
    SiO w0 w (w1.setCell ⟨Y,6,none⟩ (.slice p' (n.redirs.length+1) c')) X Y { n with redirs:=n.redirs++ [y] } { V with pr:=p',cr:=c',cssr:=V.cssr++ [cs],Fr:=F' } (M+1) S:=by
  have hb:=h.box.base;have hn:(n.redirs++ [y]).length=n.redirs.length+1:=(by rw[List.length_append];rfl);have hown:∀k,(Value.slice V.pr n.redirs.length V.cr).ownBlock=some k→Y<k:=fun k hk=>(h.rowr.lt k (.inr hk)).1;have hk2:Kept (fun k=>k=Y) w1 (w1.setCell ⟨Y,6,none⟩ (.slice p' (n.redirs.length+1) c')):=(Kept.refl (fun k=>k=Y) w1).setCell (p:=⟨Y,6,none⟩) (.inl rfl) _;refine { max:=hM,box:= ?_,node:=h.node,roww:= ?_,rowa:= ?_,rowr:= ?_,apwa:= ?_,apwr:= ?_,apaw:= ?_,apar:= ?_,aprw:= ?_,apra:= ?_,feww:= ?_,fewa:= ?_,fewr:= ?_ }
  · have:=(h.box.turn hX hX0 hk (fun k hk=>hown k hk)).set hX hX0 6 (.slice p' (n.redirs.length+1) c')
    simp only[siC,hn];exact this
  · exact(h.roww.kept hk fun k hk'=>h.aprw k hk').kept hk2 fun k hk'=>by have:=(h.roww.lt k hk').1;omega
  · exact(h.rowa.kept hk fun k hk'=>h.apra k hk').kept hk2 fun k hk'=>by have:=(h.rowa.lt k hk').1;omega
  · simp only[hn]
    exact hr.kept hk2 fun k hk'=>by have:=(hr.lt k hk').1;omega
  · exact h.apwa
  · simp only[hn]
    exact ap_pushed h.apwr hF (fun k hk'=>⟨hCw k hk',(h.roww.lt k (.inr hk')).2⟩) hat
  · exact h.apaw
  · simp only[hn]
    exact ap_pushed h.apar hF (fun k hk'=>⟨hCa k hk',(h.rowa.lt k (.inr hk')).2⟩) hat
  · simp only[hn]
    exact ap_push h.aprw (fun k hk'=>(h.roww.lt k hk').2) hat
  · simp only[hn]
    exact ap_push h.apra (fun k hk'=>(h.rowa.lt k hk').2) hat
  · exact Nat.le_succ_of_le h.feww
  · exact Nat.le_succ_of_le h.fewa
  · simp only[hn];have:=h.fewr;omega
end
theorem SiO.node_tree {w0 w wr:World} {X Y:Nat} {n:Nd} {V:Sv} {M:Nat} {S:PS} (h:SiO w0 w wr X Y n V M S):NewAt w0 wr (w.heap.size+1) fun W=>TrC W (siC V n++ [.slice none 0 0]) (.mk n []):=by
  have hb:=h.box.base;have h1:=(h.roww.sl (by have:=h.feww;have:=h.max;unfold maxLen;omega)).base (C:=w.heap.size+1) (by omega);have h2:=(h.rowa.sl (by have:=h.fewa;have:=h.max;unfold maxLen;omega)).base (C:=w.heap.size+1) (by omega);have h3:=(h.rowr.sl (by have:=h.fewr;have:=h.max;unfold maxLen;omega)).base (C:=w.heap.size+1) (by omega);refine((h1.and h2).and h3).imp fun W hW=> ?_;have hn:=h.node;have hc:NdC W n (siC V n):=⟨hn.2.2.1,_,_,_,_,by rw[hn.1,hn.2.1];rfl,hW.1.1,by rw[hn.2.2.2];exact SlAt.nil _ _ _ _,hW.1.2,hW.2⟩;exact .mk n [] (siC V n) none 0 [] hc rfl (by simp) (fun _ _ h=>by simp at h) (fun _ _ _ h=>by simp at h)
end Go.Proofs.YtakceggnadagmaaGreatDoor
