/-
  Proved: contracts of functions, plain facts. Conditions: as each says.
-/
import Derived.Test.YtcpmjkefbjbhpaaGreatDoorSw29
import Derived.Test.YtcpmjkefbjbhpaaGreatDoorSw30
namespace Go.Proofs.YtcpmjkefbjbhpaaGreatDoor
open Go Go.RowKit GlyphMath LexMath TreeMath ParseMath
def siK (V:Sv) (n:Nd):List Value:=nkC ⟨#[99,109,100]⟩ ⟨#[]⟩ (.slice V.pw n.words.length V.cw) (.slice none 0 0) (.slice V.pa n.assigns.length V.ca) (.slice V.pr n.redirs.length V.cr) (.slice none 0 0)
structure SiR (w0 w wr:World) (X Y:Nat) (n:Nd) (V:Sv) (M:Nat) (S:PS):Prop where
  max:M≤5000
  box:BxR w0 w wr X Y (siK V n).toArray S
  node:n.op= [99,109,100]∧n.name= []∧n.kids= []∧n.pats= []
  roww:WRow w0 wr (Y+1) (.slice V.pw n.words.length V.cw) V.cssw n.words V.Fw
  rowa:RowG w0 wr 144 2 PairP (Y+1) (.slice V.pa n.assigns.length V.ca) V.cssa n.assigns V.Fa
  rowr:RowG w0 wr 125 2 PairP (Y+1) (.slice V.pr n.redirs.length V.cr) V.cssr n.redirs V.Fr
  apwa:∀k,(V.Fa k∨(Value.slice V.pa n.assigns.length V.ca).ownBlock=some k)→(Value.slice V.pw n.words.length V.cw).ownBlock≠some k
  apwr:∀k,(V.Fr k∨(Value.slice V.pr n.redirs.length V.cr).ownBlock=some k)→(Value.slice V.pw n.words.length V.cw).ownBlock≠some k
  apaw:∀k,(V.Fw k∨(Value.slice V.pw n.words.length V.cw).ownBlock=some k)→(Value.slice V.pa n.assigns.length V.ca).ownBlock≠some k
  apar:∀k,(V.Fr k∨(Value.slice V.pr n.redirs.length V.cr).ownBlock=some k)→(Value.slice V.pa n.assigns.length V.ca).ownBlock≠some k
  aprw:∀k,(V.Fw k∨(Value.slice V.pw n.words.length V.cw).ownBlock=some k)→(Value.slice V.pr n.redirs.length V.cr).ownBlock≠some k
  apra:∀k,(V.Fa k∨(Value.slice V.pa n.assigns.length V.ca).ownBlock=some k)→(Value.slice V.pr n.redirs.length V.cr).ownBlock≠some k
  feww:n.words.length+S.ts.length≤M
  fewa:n.assigns.length+S.ts.length≤M
  fewr:n.redirs.length+S.ts.length≤M
section
variable {w0 w wr w1 : World} {X Y : Nat} {n : Nd} {V : Sv} {M M' : Nat} {S S' : PS}
theorem SiR.step (h:SiR w0 w wr X Y n V M S) (hX:X<w.heap.size) (hs:QStep w0 wr w1 X S') (hM:M'≤5000) (hl:S'.ts.length+M≤S.ts.length+M'):SiR w0 w w1 X Y n V M' S':=by
  have hb:=h.box.base
  exact { h with
    max:=hM
    box:=h.box.step hX hs
    roww:=h.roww.kept hs.2 (fun k hk=>by have:=(h.roww.lt k hk).1;omega)
    rowa:=h.rowa.kept hs.2 (fun k hk=>by have:=(h.rowa.lt k hk).1;omega)
    rowr:=h.rowr.kept hs.2 (fun k hk=>by have:=(h.rowr.lt k hk).1;omega)
    feww:=by have:=h.feww;omega
    fewa:=by have:=h.fewa;omega
    fewr:=by have:=h.fewr;omega }
theorem SiR.new (h:SiR w0 w wr X Y n V M S) (hX:X<w.heap.size) (hb:Below wr.heap.size wr w1):SiR w0 w w1 X Y n V M S:=h.step hX ⟨h.box.rd.pr.new hb,Kept.of_below hb⟩ h.max (Nat.le_refl _)
theorem SiR.pushw {C:Nat} {p':Option Addr} {c':Nat} {cs:List Value} {y:List Pt} {F':Nat→Prop} (h:SiR w0 w wr X Y n V M S) (hM:M+1≤5000) (hX:X<w.heap.size) (hX0:w0.heap.size≤X)
    (hCa:∀k,(Value.slice V.pa n.assigns.length V.ca).ownBlock=some k→k<C)
    (hCr:∀k,(Value.slice V.pr n.redirs.length V.cr).ownBlock=some k→k<C)
    (hr:WRow w0 w1 (Y+1) (.slice p' (n.words.length+1) c') (V.cssw++ [cs]) (n.words++ [y]) F') (hF:∀k,F' k→V.Fw k∨(C≤k∧k<wr.heap.size)) (hat:(Value.slice p' (n.words.length+1) c').ownBlock=(Value.slice V.pw n.words.length V.cw).ownBlock∨∀k,(Value.slice p' (n.words.length+1) c').ownBlock=some k→wr.heap.size≤k)
    (hk:Kept (fun k=>(Value.slice V.pw n.words.length V.cw).ownBlock=some k) wr w1):
    SiR w0 w (w1.setCell ⟨Y,3,none⟩ (.slice p' (n.words.length+1) c')) X Y { n with words:=n.words++ [y] } { V with pw:=p',cw:=c',cssw:=V.cssw++ [cs],Fw:=F' } (M+1) S:=by
  have hb:=h.box.base;have hn:(n.words++ [y]).length=n.words.length+1:=(by rw[List.length_append];rfl);have hown:∀k,(Value.slice V.pw n.words.length V.cw).ownBlock=some k→Y<k:=fun k hk=>(h.roww.lt k (.inr hk)).1;have hk2:Kept (fun k=>k=Y) w1 (w1.setCell ⟨Y,3,none⟩ (.slice p' (n.words.length+1) c')):=(Kept.refl (fun k=>k=Y) w1).setCell (p:=⟨Y,3,none⟩) (.inl rfl) _;refine { max:=hM,box:= ?_,node:=h.node,roww:= ?_,rowa:= ?_,rowr:= ?_,apwa:= ?_,apwr:= ?_,apaw:= ?_,apar:= ?_,aprw:= ?_,apra:= ?_,feww:= ?_,fewa:= ?_,fewr:= ?_ }
  · have:=(h.box.turn hX hX0 hk (fun k hk=>hown k hk)).set hX hX0 3 (.slice p' (n.words.length+1) c')
    simp only[siK,hn];rw[siK,nkC_set3]at this;exact this
  · simp only[hn]
    exact hr.kept hk2 fun k hk'=>by have:=(hr.lt k hk').1;omega
  · exact(h.rowa.kept hk fun k hk'=>h.apwa k hk').kept hk2 fun k hk'=>by have:=(h.rowa.lt k hk').1;omega
  · exact(h.rowr.kept hk fun k hk'=>h.apwr k hk').kept hk2 fun k hk'=>by have:=(h.rowr.lt k hk').1;omega
  · simp only[hn]
    exact ap_push h.apwa (fun k hk'=>(h.rowa.lt k hk').2) hat
  · simp only[hn]
    exact ap_push h.apwr (fun k hk'=>(h.rowr.lt k hk').2) hat
  · simp only[hn]
    exact ap_pushed h.apaw hF (fun k hk'=>⟨hCa k hk',(h.rowa.lt k (.inr hk')).2⟩) hat
  · exact h.apar
  · simp only[hn]
    exact ap_pushed h.aprw hF (fun k hk'=>⟨hCr k hk',(h.rowr.lt k (.inr hk')).2⟩) hat
  · exact h.apra
  · simp only[hn];have:=h.feww;omega
  · exact Nat.le_succ_of_le h.fewa
  · exact Nat.le_succ_of_le h.fewr
theorem SiR.pusha {C:Nat} {p':Option Addr} {c':Nat} {cs:List Value} {y:List UInt8×List Pt} {F':Nat→Prop} (h:SiR w0 w wr X Y n V M S) (hM:M+1≤5000) (hX:X<w.heap.size) (hX0:w0.heap.size≤X)
    (hCw:∀k,(Value.slice V.pw n.words.length V.cw).ownBlock=some k→k<C)
    (hCr:∀k,(Value.slice V.pr n.redirs.length V.cr).ownBlock=some k→k<C)
    (hr:RowG w0 w1 144 2 PairP (Y+1) (.slice p' (n.assigns.length+1) c') (V.cssa++ [cs]) (n.assigns++ [y]) F') (hF:∀k,F' k→V.Fa k∨(C≤k∧k<wr.heap.size)) (hat:(Value.slice p' (n.assigns.length+1) c').ownBlock=(Value.slice V.pa n.assigns.length V.ca).ownBlock∨∀k,(Value.slice p' (n.assigns.length+1) c').ownBlock=some k→wr.heap.size≤k)
    (hk:Kept (fun k=>(Value.slice V.pa n.assigns.length V.ca).ownBlock=some k) wr w1):
    SiR w0 w (w1.setCell ⟨Y,5,none⟩ (.slice p' (n.assigns.length+1) c')) X Y { n with assigns:=n.assigns++ [y] } { V with pa:=p',ca:=c',cssa:=V.cssa++ [cs],Fa:=F' } (M+1) S:=by
  have hb:=h.box.base;have hn:(n.assigns++ [y]).length=n.assigns.length+1:=(by rw[List.length_append];rfl);have hown:∀k,(Value.slice V.pa n.assigns.length V.ca).ownBlock=some k→Y<k:=fun k hk=>(h.rowa.lt k (.inr hk)).1;have hk2:Kept (fun k=>k=Y) w1 (w1.setCell ⟨Y,5,none⟩ (.slice p' (n.assigns.length+1) c')):=(Kept.refl (fun k=>k=Y) w1).setCell (p:=⟨Y,5,none⟩) (.inl rfl) _;refine { max:=hM,box:= ?_,node:=h.node,roww:= ?_,rowa:= ?_,rowr:= ?_,apwa:= ?_,apwr:= ?_,apaw:= ?_,apar:= ?_,aprw:= ?_,apra:= ?_,feww:= ?_,fewa:= ?_,fewr:= ?_ }
  · have:=(h.box.turn hX hX0 hk (fun k hk=>hown k hk)).set hX hX0 5 (.slice p' (n.assigns.length+1) c')
    simp only[siK,hn];rw[siK,nkC_set5]at this;exact this
  · exact(h.roww.kept hk fun k hk'=>h.apaw k hk').kept hk2 fun k hk'=>by have:=(h.roww.lt k hk').1;omega
  · simp only[hn]
    exact hr.kept hk2 fun k hk'=>by have:=(hr.lt k hk').1;omega
  · exact(h.rowr.kept hk fun k hk'=>h.apar k hk').kept hk2 fun k hk'=>by have:=(h.rowr.lt k hk').1;omega
  · simp only[hn]
    exact ap_pushed h.apwa hF (fun k hk'=>⟨hCw k hk',(h.roww.lt k (.inr hk')).2⟩) hat
  · exact h.apwr
  · simp only[hn]
    exact ap_push h.apaw (fun k hk'=>(h.roww.lt k hk').2) hat
  · simp only[hn]
    exact ap_push h.apar (fun k hk'=>(h.rowr.lt k hk').2) hat
  · exact h.aprw
  · simp only[hn]
    exact ap_pushed h.apra hF (fun k hk'=>⟨hCr k hk',(h.rowr.lt k (.inr hk')).2⟩) hat
  · exact Nat.le_succ_of_le h.feww
  · simp only[hn];have:=h.fewa;omega
  · exact Nat.le_succ_of_le h.fewr
theorem SiR.pushr {C:Nat} {p':Option Addr} {c':Nat} {cs:List Value} {y:List UInt8×List Pt} {F':Nat→Prop} (h:SiR w0 w wr X Y n V M S) (hM:M+1≤5000) (hX:X<w.heap.size) (hX0:w0.heap.size≤X)
    (hCw:∀k,(Value.slice V.pw n.words.length V.cw).ownBlock=some k→k<C)
    (hCa:∀k,(Value.slice V.pa n.assigns.length V.ca).ownBlock=some k→k<C)
    (hr:RowG w0 w1 125 2 PairP (Y+1) (.slice p' (n.redirs.length+1) c') (V.cssr++ [cs]) (n.redirs++ [y]) F') (hF:∀k,F' k→V.Fr k∨(C≤k∧k<wr.heap.size)) (hat:(Value.slice p' (n.redirs.length+1) c').ownBlock=(Value.slice V.pr n.redirs.length V.cr).ownBlock∨∀k,(Value.slice p' (n.redirs.length+1) c').ownBlock=some k→wr.heap.size≤k)
    (hk:Kept (fun k=>(Value.slice V.pr n.redirs.length V.cr).ownBlock=some k) wr w1):
    SiR w0 w (w1.setCell ⟨Y,6,none⟩ (.slice p' (n.redirs.length+1) c')) X Y { n with redirs:=n.redirs++ [y] } { V with pr:=p',cr:=c',cssr:=V.cssr++ [cs],Fr:=F' } (M+1) S:=by
  have hb:=h.box.base;have hn:(n.redirs++ [y]).length=n.redirs.length+1:=(by rw[List.length_append];rfl);have hown:∀k,(Value.slice V.pr n.redirs.length V.cr).ownBlock=some k→Y<k:=fun k hk=>(h.rowr.lt k (.inr hk)).1;have hk2:Kept (fun k=>k=Y) w1 (w1.setCell ⟨Y,6,none⟩ (.slice p' (n.redirs.length+1) c')):=(Kept.refl (fun k=>k=Y) w1).setCell (p:=⟨Y,6,none⟩) (.inl rfl) _;refine { max:=hM,box:= ?_,node:=h.node,roww:= ?_,rowa:= ?_,rowr:= ?_,apwa:= ?_,apwr:= ?_,apaw:= ?_,apar:= ?_,aprw:= ?_,apra:= ?_,feww:= ?_,fewa:= ?_,fewr:= ?_ }
  · have:=(h.box.turn hX hX0 hk (fun k hk=>hown k hk)).set hX hX0 6 (.slice p' (n.redirs.length+1) c')
    simp only[siK,hn];rw[siK,nkC_set6]at this;exact this
  · exact(h.roww.kept hk fun k hk'=>h.aprw k hk').kept hk2 fun k hk'=>by have:=(h.roww.lt k hk').1;omega
  · exact(h.rowa.kept hk fun k hk'=>h.apra k hk').kept hk2 fun k hk'=>by have:=(h.rowa.lt k hk').1;omega
  · simp only[hn]
    exact hr.kept hk2 fun k hk'=>by have:=(hr.lt k hk').1;omega
  · exact h.apwa
  · simp only[hn]
    exact ap_pushed h.apwr hF (fun k hk'=>⟨hCw k hk',(h.roww.lt k (.inr hk')).2⟩) hat
  · exact h.apaw
  · simp only[hn]
    exact ap_pushed h.apar hF (fun k hk'=>⟨hCa k hk',(h.rowa.lt k (.inr hk')).2⟩) hat
  · simp only[hn]
    exact ap_push h.aprw (fun k hk'=>(h.roww.lt k hk').2) hat
  · simp only[hn]
    exact ap_push h.apra (fun k hk'=>(h.rowa.lt k hk').2) hat
  · exact Nat.le_succ_of_le h.feww
  · exact Nat.le_succ_of_le h.fewa
  · simp only[hn];have:=h.fewr;omega
end
theorem SiR.node_tree {w0 w wr:World} {X Y:Nat} {n:Nd} {V:Sv} {M:Nat} {S:PS} (h:SiR w0 w wr X Y n V M S):NewAt w0 wr (w.heap.size+1) fun W=>TrC W (siK V n) (.mk n []):=by
  have hb:=h.box.base;have h1:=(h.roww.sl (by have:=h.feww;have:=h.max;unfold maxLen;omega)).base (C:=w.heap.size+1) (by omega);have h2:=(h.rowa.sl (by have:=h.fewa;have:=h.max;unfold maxLen;omega)).base (C:=w.heap.size+1) (by omega);have h3:=(h.rowr.sl (by have:=h.fewr;have:=h.max;unfold maxLen;omega)).base (C:=w.heap.size+1) (by omega);refine((h1.and h2).and h3).imp fun W hW=> ?_;have hn:=h.node;have hc:NdC W n (siC V n):=⟨hn.2.2.1,_,_,_,_,by rw[hn.1,hn.2.1];rfl,hW.1.1,by rw[hn.2.2.2];exact SlAt.nil _ _ _ _,hW.1.2,hW.2⟩;exact .mk n [] (siC V n) none 0 [] hc rfl (by simp) (fun _ _ h=>by simp at h) (fun _ _ _ h=>by simp at h)
theorem SiR.first {w0 w w1:World} {X:Nat} {S:PS} (hpr:Rr w0 w1 X S) (hz:w1.heap[w.heap.size]? =some ZNR) (hk:Kept (fun k=>k=X) w w1):
    SiR w0 w (w1.alloc (.cells (siK V0 n0).toArray 74)) X w1.heap.size n0 V0 4002 S:=by
  have hl:=(gS.1 hz).1;have hfew:=hpr.good.few;have hap:∀k,(False∨(Value.slice none 0 0).ownBlock=some k)→(Value.slice none 0 0).ownBlock≠some k:=fun k hk=>hk.elim (fun h=>h.elim) (fun e=>by simp[Value.ownBlock]at e)
  exact { max:=by decide,box:=⟨heap_alloc_new w1 _,hl,hpr.new (below_new _ _),kept_allocR hz _,hk.on (Kept.of_below (below_new _ _))⟩,node:=⟨rfl,rfl,rfl,rfl⟩,
          roww:=RowG.nil _ _ _ _ _ _,rowa:=RowG.nil _ _ _ _ _ _,rowr:=RowG.nil _ _ _ _ _ _,apwa:=hap,apwr:=hap,apaw:=hap,apar:=hap,aprw:=hap,apra:=hap,
          feww:=by show 0+_≤_;omega,fewa:=by show 0+_≤_;omega,fewr:=by show 0+_≤_;omega }
set_option maxHeartbeats 2000000 in
set_option maxRecDepth 10000 in
theorem qreserved_any (l:List UInt8) (w:World):
    Calls Tryz.prog 50 #[.string (T l)] w fun e w'=>e= .returned (.bool (reservedT l))∧w=w':=by
  obtain⟨o,ho⟩:∃o,T l=o:=⟨_,rfl⟩;have hl:o.toList=l:=(by rw[←ho,Lib.toList_data]);rw[ho,←hl];clear ho hl;obtain⟨R,hR⟩:∃R,reservedT o.toList=R:=⟨_,rfl⟩;have HR:=yH hR;rw[hR];clear hR;go_enter Tryz.func50,Tryz.ntmps50;go_wp2_with fail
  all_goals
    go_ret;refine⟨ret_bool ?_,rfl⟩;rw[←HR.out]
    first
      |(simp only[reservedT,reservedL,List.contains_cons,List.contains_nil,Bool.or_false,Bool.true_or,Bool.false_or, *];done)
      |(simp_all;done)
theorem simple_bad {S:PS} (hg:GoodS S) (h1:S.isWord=false) (h2:S.isRedir=false):(simpleM S).2=S.fail 2:=by
  have hf:=(to_fail hg (e:=2) (by decide)).good;have hd:Dead (S.fail 2):=fail_one hg 2;have hw:(S.fail 2).isWord=false:=(by unfold PS.isWord;rw[Dead.kind hf hd];decide);have hr:(S.fail 2).isRedir=false:=(by unfold PS.isRedir;rw[Dead.is hf hd (by decide),Dead.is hf hd (by decide),Dead.is hf hd (by decide)];rfl);show(simpleL (S.want (S.isWord||S.isRedir)).ts.length _ (S.want (S.isWord||S.isRedir))).2=_;rw[h1,h2,show S.want (false||false)=S.fail 2 from rfl,show(S.fail 2).ts.length=0+1 from hd,simpleL_end hr hw]
theorem dead_word {S:PS} (hg:GoodS S) (hd:Dead S):S.isWord=false∧S.isRedir=false:=by
  refine⟨by unfold PS.isWord;rw[Dead.kind hg hd];decide,?_⟩;unfold PS.isRedir;rw[Dead.is hg hd (by decide),Dead.is hg hd (by decide),Dead.is hg hd (by decide)];rfl
theorem simpleL_dead {S:PS} (hg:GoodS S) (hd:Dead S):∀(f:Nat) (n:Nd),simpleL f n S=(n,S)
  |0,_=>rfl
  |_+1,_=>simpleL_end (dead_word hg hd).2 (dead_word hg hd).1
theorem gives_some {q:Pt} {r:List Pt} {k:Nat} (hg:givesT (q::r)=true) (ha:aheadT (openT (q::r))=some ((openT (q::r)).take k)) (hr:restT (openT (q::r))=(openT (q::r)).drop (k+1)):openT (q::r)=q.text∧assignO (q::r)=some (q.text.take k,valT (q.text.drop (k+1)) r):=by
  have hb:bareT q=true:=by
    cases hb:bareT q with
    |true=>rfl
    |false=>
      have ho:openT (q::r)= []:=(by show(if bareT q=true then q.text else [])=_;rw[hb];rfl);rw[gives_open,ho]at hg;exact absurd hg (by decide)
  have ho:openT (q::r)=q.text:=(by show(if bareT q=true then q.text else [])=_;rw[hb];rfl);rw[ho]at ha hr;rw[gives_open,ho,ha]at hg;refine⟨ho,?_⟩;rw[assignO_some hb ha hg,hr];rfl
theorem gives_none {ps:List Pt} (hg:givesT ps=false):assignO ps=none:=by
  match ps,hg with
  | [],_=>rfl
  |q::r,hg=>
    cases hb:bareT q with
    |false=>exact assignO_bare hb
    |true=>
      have ho:openT (q::r)=q.text:=(by show(if bareT q=true then q.text else [])=_;rw[hb];rfl);rw[gives_open,ho]at hg
      cases ha:aheadT q.text with
      |none=>exact assignO_none hb ha
      |some n=>rw[ha]at hg;exact assignO_name hb ha hg
theorem qassign_ps {w0:World} {ps:List Pt} {p:Option Addr} {k kk yl:Nat} (hyl:ps.length=yl) (hu:PsAt w0 (.slice p yl k) ps) (hk:yl≤k) (hsm:Small ps) (hfew:ps.length≤4000) (hne:ps≠ []) (hg:givesT ps=true) (hgk:aheadT (openT ps)=some ((openT ps).take kk)∧restT (openT ps)=(openT ps).drop (kk+1)∧kk<(openT ps).length):
    ∃a,assignO ps=some a∧∀W,Below w0.heap.size w0 W→Calls Tryz.prog 214 #[.agg #[.slice p yl k],.int .i64 (kk:Int)] W fun e w'=>QaEnd w0 W w' e a.1 a.2:=by
  subst hyl;obtain⟨q,r,rfl⟩:=List.exists_cons_of_ne_nil hne;obtain⟨h1,h2⟩:=gives_some hg hgk.1 hgk.2.1;have h3:=hgk.2.2;rw[h1]at h3;exact⟨_,h2,fun W hW=>qassign_any hW q r p k kk hu hk hsm (by omega) h3⟩
theorem reserved_noEq:∀l∈reservedL,aheadT l=none:=by decide
theorem reserved_none {ps:List Pt} {s:List UInt8} (hp:plainT ps=some s) (hr:reservedT s=true):assignO ps=none:=by
  have hs:=reserved_noEq s (by unfold reservedT at hr;simpa using hr)
  match ps,hp with
  | [q],hp=>
    cases hb:bareT q with
    |true=>
      rw[plainT,if_pos hb]at hp;obtain rfl:=Option.some.inj hp;exact assignO_none hb hs
    |false=>exact assignO_bare hb
theorem qsimple_bad {w0 w:World} {X:Nat} {S:PS} (h:Rr w0 w X S) (h1:S.isWord=false) (h2:S.isRedir=false):
    Calls Tryz.prog 181 #[.pointer (some ⟨X,0,none⟩)] w fun e w'=> ∃t,TrAt w0 w w' e X t (simpleM S).2∧((simpleM S).2.err=0→t=(simpleM S).1):=by
  have HM:=yH (simple_bad h.good h1 h2)
  have hne:(S.fail 2).err≠0:=by
    unfold PS.fail;dsimp only
    split<;>omega
  have HNE:=yH hne;rw[HM.out];have HX:=yH h.base;have HR1:=yH (RdH.begin h);have HRD:=yH (fun W (hW:Rr w0 W X S)=>(qredir_any hW).mono fun e w' he=>he.2 h2);have HN:=yH (fun W (hW:Rr w0 W X S)=>qnow_any hW);have hk:S.hd.kind≠1:=(by simpa [PS.isWord]using h1);unfold tkN at HN;obtain⟨kd,hkd⟩:∃x,S.hd.kind=x:=⟨_,rfl⟩;obtain⟨tx,htx⟩:∃x,T S.hd.text=x:=⟨_,rfl⟩;obtain⟨wl,hwl⟩:∃x,S.hd.word.length=x:=⟨_,rfl⟩;rw[hkd]at hk;simp only[hkd,htx,hwl]at HN;have hk1:(kd !=1)=true:=(by simpa using hk);clear h h1 h2 hk hkd htx hwl hne;go_enter Tryz.func181,Tryz.ntmps181
  go_wp2_with (first
    |(go_at_call 68;refine(qof_any _ _ _ _ _).mono ?_;rintro en w2 ⟨rfl,hb⟩;have HR2:=yH (HR1.out.new HX.out.2 hb);clear hb)
    |(refine wpList_store_row (by rfl) 74 (.tmp 3) (.tmp 12) (by rfl) w2.heap.size (ofC ⟨#[99,109,100]⟩ (.slice none 0 0)).toArray (by rfl) (by rfl) 74 zeroN.toArray (heap_alloc_new w2 _) (by rw[rtree_info];rfl) rfl (all_oneCell_toArray (ofC_cel _ _ _ _).2) ?_;rw[World.setRow_alloc_new];have hb:=SiR.first HR2.out.pr HR2.out.zero HR2.out.kept;obtain⟨w3,hw⟩:∃W,W=w2.alloc (.cells (ofC ⟨#[99,109,100]⟩ (.slice none 0 0)).toArray 74):=⟨_,rfl⟩;have hw2:w2.alloc (.cells (siK V0 n0).toArray 74)=w3:=hw.symm;rw[hw2]at hb;rw[←hw];have HB3:=yH hb;clear hb hw hw2))
  obtain⟨Y,hY⟩:∃Y,w2.heap.size=Y:=⟨_,rfl⟩;rw[hY]at HB3 ⊢;clear hY
  go_loopw [4] (fun v wr=>v= .bool false∧wr=w3) (fun _ _=>0)
  case atStart=>exact⟨rfl,rfl⟩
  case round=>
    obtain⟨rfl,rfl⟩:=hrel;have c2:=HB3.out.box.rd.pr.errc
    by_cases he:S.err=0
    · rw[he]at c2
      have c2:wr.cell? ⟨X,2,none⟩=some (.int .i64 0):=c2;clear he
      go_wp2_with (first
        |(refine wpList_store_row (by rfl) 74 (.tmp 2) (.tmp 99) (by rfl) w.heap.size (siK V0 n0).toArray (by rfl) (by rfl) 74 zeroN.toArray HB8.out.box.rd.zero (by rw[rtree_info];rfl) rfl (all_oneCell_toArray (nkC_cel _ _ _ _ _ _ _ _ _ _ _ _ _ _ _ _ _).2) ?_)
        |(refine wpList_load_row (by rfl) 74 (.tmp 3) (by rfl) Y (by rfl) 74 (siK V0 n0).toArray (0,0) _ HB8.out.box.box Tryz.underlying74 rfl (by rw[rtree_info];rfl) ?_)
        |(go_at_call 30;refine(qfail_any HB5.out.box.rd.pr 2 (by decide) (by decide)).mono ?_;rintro en w8 ⟨rfl,hs⟩;have HB8:=yH (HB5.out.step (M':=4002) HX.out.2 hs (by decide) (Nat.add_le_add_right (to_fail HB5.out.box.rd.pr.good (e:=2) (by decide)).len _));clear hs)
        |(go_at_call 29;refine(HN.out _ HB4.out.box.rd.pr).mono ?_;rintro en w5 ⟨p5,k5,a5,rfl, -,hb⟩;have qf:=tok_f0 kd a5 tx p5 wl k5;have HB5:=yH (HB4.out.new HX.out.2 hb);clear hb)
        |(go_at_call 179;refine(HRD.out _ HB3.out.box.rd.pr).mono ?_;rintro en w4 ⟨rfl,hs⟩;have HB4:=yH ((HB3.out.step (M':=4002) HX.out.2 hs (by decide) (Nat.le_refl _)).new HX.out.2 (below_new w4 (.cells #[.string ⟨#[]⟩,.slice none 0 0] 125)));clear hs))
      (try simp only[Exit.inBlock,Exit.then])
      refine bodyPost_ret (ret_rtree rfl (setRow_heap w8 w.heap.size zeroN.toArray _ 74 (0,0) HB8.out.box.rd.zero) (nkC_cel _ _ _ _ _ _ _ _ _ _ _ _ _ _ _ _ _) rfl) rfl ?_;exact⟨_,HB8.out.box.rd.ret HX.out.2 HX.out.1 (nkC_cel _ _ _ _ _ _ _ _ _ _ _ _ _ _ _ _ _) HB8.out.node_tree,fun he=>absurd he HNE.out⟩
    · have hz:((S.err:Int)==0)=false:=by
        have:¬(S.err:Int)=0:=by omega
        simpa using this
      clear he
      go_wp2_with (first
        |(refine wpList_store_row (by rfl) 74 (.tmp 2) (.tmp 99) (by rfl) w.heap.size (siK V0 n0).toArray (by rfl) (by rfl) 74 zeroN.toArray HB8.out.box.rd.zero (by rw[rtree_info];rfl) rfl (all_oneCell_toArray (nkC_cel _ _ _ _ _ _ _ _ _ _ _ _ _ _ _ _ _).2) ?_)
        |(refine wpList_load_row (by rfl) 74 (.tmp 3) (by rfl) Y (by rfl) 74 (siK V0 n0).toArray (0,0) _ HB8.out.box.box Tryz.underlying74 rfl (by rw[rtree_info];rfl) ?_)
        |(go_at_call 30;refine(qfail_any HB3.out.box.rd.pr 2 (by decide) (by decide)).mono ?_;rintro en w8 ⟨rfl,hs⟩;have HB8:=yH (HB3.out.step (M':=4002) HX.out.2 hs (by decide) (Nat.add_le_add_right (to_fail HB3.out.box.rd.pr.good (e:=2) (by decide)).len _));clear hs))
      (try simp only[Exit.inBlock,Exit.then])
      refine bodyPost_ret (ret_rtree rfl (setRow_heap w8 w.heap.size zeroN.toArray _ 74 (0,0) HB8.out.box.rd.zero) (nkC_cel _ _ _ _ _ _ _ _ _ _ _ _ _ _ _ _ _) rfl) rfl ?_;exact⟨_,HB8.out.box.rd.ret HX.out.2 HX.out.1 (nkC_cel _ _ _ _ _ _ _ _ _ _ _ _ _ _ _ _ _) HB8.out.node_tree,fun he=>absurd he HNE.out⟩
end Go.Proofs.YtcpmjkefbjbhpaaGreatDoor
