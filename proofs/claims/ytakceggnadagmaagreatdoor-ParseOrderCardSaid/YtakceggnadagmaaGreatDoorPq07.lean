/-
  Proved: contracts of functions, plain facts. Conditions: as each says.
-/
import Derived.Test.YtakceggnadagmaaGreatDoorPq01
import Derived.Test.YtakceggnadagmaaGreatDoorPq06
import Derived.Deep.MidRow
import Derived.Test.YtakceggnadagmaaGreatDoorPq00
import Derived.Test.YtakceggnadagmaaGreatDoorPq03
import Derived.Test.YtakceggnadagmaaGreatDoorPq02
namespace Go.Proofs.YtakceggnadagmaaGreatDoor
open Go Go.RowKit GlyphMath LexMath TreeMath ParseMath
theorem ownsRow_set {w:World} {B e sz:Nat} {g c n:Nat} {xs:List Value} (h:w.ownsRow B e sz (.slice (some ⟨g,0,none⟩) n c) n xs) (j:Nat) (u:Value):(w.setCell ⟨g,j,none⟩ u).ownsRow B e sz (.slice (some ⟨g,0,none⟩) n c) n (xs.set j u):=by
  obtain⟨h1,h2⟩:=h;refine⟨by rw[List.length_set];exact h1,?_⟩
  rcases h2 with ⟨hv,_⟩|⟨g',cap,cur,hv,hB,hh,hn,hm,hs,ht⟩
  · simp at hv
  · simp only[Value.slice.injEq,Option.some.injEq,Addr.mk.injEq,and_true,true_and]at hv
    obtain⟨rfl,rfl⟩:=hv;refine .inr ⟨g,c,cur.setIfInBounds j u,rfl,hB,heap_setCell_same w g j cur e u hh,hn,hm,by rw[Array.size_setIfInBounds];exact hs,?_⟩;rw[Array.toList_setIfInBounds,List.take_set,ht]
theorem flat_set {sz:Nat} :∀ {css:List (List Value)},(∀cs∈css,Cel sz cs)→∀(i:Nat) (cs:List Value) (j:Nat) (u:Value),css[i]? =some cs→j<sz→(css.set i (cs.set j u)).flatten=css.flatten.set (i*sz+j) u:=by
  intro css
  induction css with
  |nil=>intro _ i cs j u h;simp at h
  |cons a r ih=>
    intro h i cs j u hi hj;have ha:=(h a (by simp)).1
    cases i with
    |zero=>
      simp only[List.getElem?_cons_zero,Option.some.injEq]at hi;subst hi;rw[List.set_cons_zero,List.flatten_cons,List.flatten_cons,Nat.zero_mul,Nat.zero_add,List.set_append_left _ _ (by omega)]
    |succ i=>
      have:=ih (fun cs hc=>h cs (by simp[hc])) i cs j u (by simpa using hi) hj;rw[List.set_cons_succ,List.flatten_cons,List.flatten_cons,this,show(i+1)*sz+j=a.length+(i*sz+j) by rw[ha,Nat.succ_mul];omega,List.set_append_right _ _ (by omega),Nat.add_sub_cancel_left]
def PN (w:World) (cs:List Value) (n:Nd):Prop:=∃kv wv pv av rv,cs= [txt n.op,txt n.name,kv,wv,pv,av,rv]∧WsAt w wv n.words∧PatsAt w pv n.pats∧AsAt w av n.assigns∧AsAt w rv n.redirs
abbrev KidR (w1 w:World) (kv:Value) (l:List Int):Prop:=RowG w1 w 3 1 (fun _ cs x=>cs= [.int .i64 x]) w1.heap.size kv (l.map fun x=> [.int .i64 x]) l (fun _=>False)
structure LaidR (w1 w:World) (v:Value) (css:List (List Value)) (ns:List Nd):Prop where
  below:Below w1.heap.size w1 w
  row:RowG w1 w 44 7 (fun _ cs n=>PN w1 cs n) w1.heap.size v css ns (fun _=>False)
  kids:∀(k:Nat) (cs:List Value) (n:Nd) (kv:Value),css[k]? =some cs→ns[k]? =some n→cs[2]? =some kv→KidR w1 w kv n.kids
  apart:∀(i j:Nat) (cs ds:List Value) (a b:Value) (g:Nat),css[i]? =some cs→css[j]? =some ds→cs[2]? =some a→ds[2]? =some b→a.ownBlock=some g→b.ownBlock=some g→i=j
  off:∀(i:Nat) (cs:List Value) (a:Value) (g:Nat),css[i]? =some cs→cs[2]? =some a→a.ownBlock=some g→v.ownBlock≠some g
theorem LaidR.nil (w:World):LaidR w w (.slice none 0 0) [] [] where
  below:=Below.refl _ _
  row:=RowG.nil _ _ _ _ _ _
  kids:=fun _ _ _ _ h=>by simp at h
  apart:=fun _ _ _ _ _ _ _ h=>by simp at h
  off:=fun _ _ _ _ h=>by simp at h
section
variable {w1 w : World} {v : Value} {css : List (List Value)} {ns : List Nd}
theorem LaidR.size (h:LaidR w1 w v css ns):w1.heap.size≤w.heap.size:=h.below.size
theorem LaidR.kids_lt (h:LaidR w1 w v css ns) {i:Nat} {cs:List Value} {a:Value} {g:Nat} (h1:css[i]? =some cs) (h2:cs[2]? =some a) (h3:a.ownBlock=some g):w1.heap.size≤g∧g<w.heap.size:=by
  obtain⟨n,hn⟩:∃n,ns[i]? =some n:=⟨_,List.getElem?_eq_getElem (by rw[←h.row.len];exact(List.getElem?_eq_some_iff.1 h1).1)⟩;exact(h.kids i cs n a h1 hn h2).lt g (.inr h3)
theorem LaidR.new {w':World} (h:LaidR w1 w v css ns) (hb:Below w.heap.size w w'):LaidR w1 w' v css ns where
  below:=h.below.trans (hb.mono h.size)
  row:=h.row.kept (Kept.of_below (D:=fun _=>False) hb) fun _ _ h=>h
  kids:=fun k cs n kv h1 h2 h3=>(h.kids k cs n kv h1 h2 h3).kept (Kept.of_below (D:=fun _=>False) hb) fun _ _ h=>h
  apart:=h.apart
  off:=h.off
theorem LaidR.push (h:LaidR w1 w v css ns) {w':World} {v':Value} {cs:List Value} {n:Nd} {F':Nat→Prop} (hr:RowG w1 w' 44 7 (fun _ cs n=>PN w1 cs n) w1.heap.size v' (css++ [cs]) (ns++ [n]) F') (hF:∀k,F' k→False)
    (hk:Kept (fun k=>v.ownBlock=some k) w w') (hat:v'.ownBlock=v.ownBlock∨∀k,v'.ownBlock=some k→w.heap.size≤k) (h2:cs[2]? =some (.slice none 0 0)) (h0:n.kids= []):LaidR w1 w' v' (css++ [cs]) (ns++ [n]):=by
  have hnew:∀(i:Nat) (ds:List Value) (a:Value) (g:Nat),(css++ [cs])[i]? =some ds→ds[2]? =some a→a.ownBlock=some g→css[i]? =some ds:=fun i ds a g e1 e2 e3=>by
    rcases Nat.lt_or_ge i css.length with hl|hl
    · rwa [List.getElem?_append_left hl]at e1
    · rw[List.getElem?_append_right hl]at e1
      obtain⟨j1,j2⟩:=List.getElem?_eq_some_iff.1 e1;simp only[List.length_singleton]at j1;simp only[List.getElem_singleton]at j2;subst j2;rw[h2]at e2
      cases e2
      cases e3
  refine⟨below_kept h.below hk (fun k e=>(h.row.lt k (.inr e)).1) h.size,hr.nofar hF,?_,?_,?_⟩
  · intro k ds m kv e1 e2 e3
    rcases Nat.lt_or_ge k css.length with hl|hl
    · rw[List.getElem?_append_left hl]at e1
      rw[List.getElem?_append_left (by rw[←h.row.len];exact hl)]at e2;exact(h.kids k ds m kv e1 e2 e3).kept hk fun i hi=>hi.elim (fun h=>h.elim) fun hi=>h.off k ds kv i e1 e3 hi
    · rw[List.getElem?_append_right hl]at e1
      rw[List.getElem?_append_right (by rw[←h.row.len];exact hl)]at e2;obtain⟨j1,j2⟩:=List.getElem?_eq_some_iff.1 e1;obtain⟨i1,i2⟩:=List.getElem?_eq_some_iff.1 e2;simp only[List.length_singleton]at j1 i1;simp only[List.getElem_singleton]at j2 i2;subst j2 i2;rw[h2]at e3
      cases e3
      rw[h0];exact RowG.nil _ _ _ _ _ _
  · intro i j ds es a b g e1 e2 e3 e4 e5 e6
    exact h.apart i j ds es a b g (hnew i ds a g e1 e3 e5) (hnew j es b g e2 e4 e6) e3 e4 e5 e6
  · intro i ds a g e1 e2 e3 e4
    have e1':=hnew i ds a g e1 e2 e3
    rcases hat with e5|e5
    · exact h.off i ds a g e1' e2 e3 (e5▸e4)
    · have:=e5 g e4
      have:=(h.kids_lt e1' e2 e3).2;omega
theorem LaidR.kid (h:LaidR w1 w v css ns) {i:Nat} {cs:List Value} {n:Nd} {kv kv':Value} {x:Int} {w':World} {F':Nat→Prop} {g c:Nat} (hv:v= .slice (some ⟨g,0,none⟩) ns.length c) (h1:css[i]? =some cs) (h2:ns[i]? =some n) (h3:cs[2]? =some kv)
    (hr:RowG w1 w' 3 1 (fun _ cs x=>cs= [.int .i64 x]) w1.heap.size kv' ((n.kids.map fun x=> [.int .i64 x])++ [[.int .i64 x]]) (n.kids++ [x]) F') (hF:∀k,F' k→False)
    (hk:Kept (fun k=>kv.ownBlock=some k) w w') (hat:kv'.ownBlock=kv.ownBlock∨∀k,kv'.ownBlock=some k→w.heap.size≤k):
    LaidR w1 (w'.setCell ⟨g,i*7+2,none⟩ kv') v (css.set i (cs.set 2 kv')) (ns.modify i fun n=> { n with kids:=n.kids++ [x] }):=by
  have hgv:v.ownBlock=some g:=(by rw[hv];rfl);have hg:=h.row.lt g (.inr hgv);have hcel:=h.row.each cs (List.mem_of_getElem? h1);have hrow':=h.row.kept hk fun k hk' e=>hk'.elim (fun h=>h.elim) fun e2=>h.off i cs kv k h1 h3 e e2
  have hne:∀k,kv'.ownBlock=some k→k≠g:=fun k e e2=>by
    subst e2
    rcases hat with e3|e3
    · exact h.off i cs kv k h1 h3 (e3▸e) hgv
    · have:=e3 k e;omega
  have hks:Kept (fun k=>k=g) w' (w'.setCell ⟨g,i*7+2,none⟩ kv'):=(Kept.refl (fun k=>k=g) w').setCell (p:=⟨g,i*7+2,none⟩) (.inl rfl) _;have hil:=(List.getElem?_eq_some_iff.1 h1).1
  have hone:kv'.oneCell'=true:=by
    obtain⟨a,c',e⟩:=hr.shape;rw[e];rfl
  have hset:∀(k:Nat) (ds:List Value),(css.set i (cs.set 2 kv'))[k]? =some ds→(k=i∧ds=cs.set 2 kv')∨(k≠i∧css[k]? =some ds):=fun k ds e=>by
    by_cases hki:i=k
    · subst hki
      rw[List.getElem?_set_self hil]at e;exact .inl ⟨rfl,by simpa using e.symm⟩
    · rw[List.getElem?_set_ne hki]at e
      exact .inr ⟨fun e=>hki e.symm,e⟩
  have hmod:∀(k:Nat) (m:Nd),(ns.modify i fun n=> { n with kids:=n.kids++ [x] })[k]? =some m→(k=i∧m= { n with kids:=n.kids++ [x] })∨(k≠i∧ns[k]? =some m):=fun k m e=>by
    rw[List.getElem?_modify]at e
    by_cases hki:i=k
    · subst hki
      rw[h2]at e;simp only[if_true,Option.map_eq_map,Option.map_some,Option.some.injEq]at e;exact .inl ⟨rfl,e.symm⟩
    · simp only[if_neg hki]at e
      exact .inr ⟨fun e=>hki e.symm,by simpa using e⟩
  have h22:(cs.set 2 kv')[2]? =some kv':=List.getElem?_set_self (by rw[hcel.1];decide)
  have hapk:∀(k:Nat) (ds:List Value) (b:Value) (q:Nat),k≠i→css[k]? =some ds→ds[2]? =some b→b.ownBlock=some q→kv'.ownBlock≠some q:=fun k ds b q hki e1 e2 e3 e4=>by
    rcases hat with e5|e5
    · exact hki (h.apart k i ds cs b kv q e1 h1 e2 h3 e3 (e5▸e4))
    · have:=e5 q e4
      have:=(h.kids_lt e1 e2 e3).2;omega
  refine⟨below_kept (below_kept h.below hk (fun k e=>(h.kids_lt h1 h3 e).1) h.size) hks (fun k e=>by rw[e];exact hg.1) (Nat.le_trans h.size hk.size),⟨?_,?_,?_,?_,fun _ h=>h.elim⟩,?_,?_,?_⟩
  · rw[List.length_modify,flat_set h.row.each i cs 2 kv' h1 (by decide)]
    have:=hrow'.own;rw[hv]at this ⊢;exact ownsRow_set this _ _
  · rw[List.length_set,List.length_modify]
    exact h.row.len
  · intro ds hds
    rcases List.mem_or_eq_of_mem_set hds with e|e
    · exact h.row.each ds e
    · subst e
      refine⟨by rw[List.length_set];exact hcel.1,fun u hu=> ?_⟩
      rcases List.mem_or_eq_of_mem_set hu with e|e
      · exact hcel.2 u e
      · rw[e];exact hone
  · intro k ds m e1 e2
    refine(Stays.of0 fun W _=> ?_)
    rcases hset k ds e1 with ⟨a1,a2⟩|⟨a1,a2⟩
    · subst a1 a2
      rcases hmod k m e2 with ⟨_,b2⟩|⟨b1,_⟩
      · subst b2
        obtain⟨kv0,wv,pv,av,rv,e,hh⟩:=(h.row.sub k cs n h1 h2).now h.below;exact⟨kv',wv,pv,av,rv,by rw[e];rfl,hh⟩
      · exact absurd rfl b1
    · rcases hmod k m e2 with ⟨b1,_⟩|⟨_,b2⟩
      · exact absurd b1 a1
      · exact(h.row.sub k ds m a2 b2).now h.below
  · intro k ds m kk e1 e2 e3
    rcases hset k ds e1 with ⟨a1,a2⟩|⟨a1,a2⟩
    · subst a1 a2
      rw[h22]at e3
      cases e3
      rcases hmod k m e2 with ⟨_,b2⟩|⟨b1,_⟩
      · subst b2
        have hr':=(hr.nofar hF).kept hks fun q hq e=>hq.elim (fun h=>h.elim) fun hq=>hne q hq e;show RowG _ _ _ _ _ _ _ ((n.kids++ [x]).map _) (n.kids++ [x]) _;rw[List.map_append];exact hr'
      · exact absurd rfl b1
    · rcases hmod k m e2 with ⟨b1,_⟩|⟨_,b2⟩
      · exact absurd b1 a1
      · refine((h.kids k ds m kk a2 b2 e3).kept hk fun q hq e=>hq.elim (fun h=>h.elim) fun hq=>a1 (h.apart k i ds cs kk kv q a2 h1 e3 h3 hq e)).kept hks fun q hq e=>hq.elim (fun h=>h.elim) fun hq=> ?_
        subst e;exact h.off k ds kk q a2 e3 hq hgv
  · intro k j ds es a b q e1 e2 e3 e4 e5 e6
    rcases hset k ds e1 with ⟨a1,a2⟩|⟨a1,a2⟩
    · subst a1 a2
      rw[h22]at e3
      cases e3
      rcases hset j es e2 with ⟨b1,b2⟩|⟨b1,b2⟩
      · exact b1.symm
      · exact absurd e5 (hapk j es b q b1 b2 e4 e6)
    · rcases hset j es e2 with ⟨b1,b2⟩|⟨b1,b2⟩
      · subst b1 b2
        rw[h22]at e4
        cases e4
        exact absurd e6 (hapk k ds a q a1 a2 e3 e5)
      · exact h.apart k j ds es a b q a2 b2 e3 e4 e5 e6
  · intro k ds a q e1 e2 e3 e4
    rcases hset k ds e1 with ⟨a1,a2⟩|⟨a1,a2⟩
    · subst a1 a2
      rw[h22]at e2
      cases e2
      rw[hgv]at e4;exact hne q e3 (by simpa using e4.symm)
    · exact h.off k ds a q a2 e2 e3 e4
end
theorem ownsRow_max {w:World} {B e sz:Nat} {v:Value} {n:Nat} {xs:List Value} (h:w.ownsRow B e sz v n xs):n≤maxLen:=by
  rcases h.2 with ⟨_,h0⟩|⟨_,cap,_,_,_,_,hn,hm,_⟩
  · omega
  · omega
theorem LaidR.ns {w1 w:World} {v:Value} {css:List (List Value)} {ns:List Nd} (h:LaidR w1 w v css ns):NsAt w v ns:=by
  obtain⟨⟨p,c,hv,h1⟩,h2⟩:=h.row.slat.now h.below;refine⟨⟨p,c,hv,fun k n hn=> ?_⟩,ownsRow_max h.row.own⟩;obtain⟨cs,hcs⟩:∃cs,css[k]? =some cs:=⟨_,List.getElem?_eq_getElem (by rw[h.row.len];exact(List.getElem?_eq_some_iff.1 hn).1)⟩;obtain⟨kv,wv,pv,av,rv,e,a1,a2,a3,a4⟩:=h2 k cs n hcs hn;have h3:=h.kids k cs n kv hcs hn (by rw[e];rfl);refine⟨cs,h1 k cs hcs,⟨⟨kv,wv,pv,av,rv,e,?_,a1.below h.below,a2.below h.below,a3.below h.below,a4.below h.below⟩⟩⟩;obtain⟨⟨p',c',hv',h4⟩,h5⟩:=h3.slat.now h.below;refine⟨⟨p',c',hv',fun j x hx=>⟨_,h4 j _ (by rw[List.getElem?_map,hx];rfl),rfl⟩⟩,ownsRow_max h3.own⟩
theorem NdC.later {w w':World} {n:Nd} {cs:List Value} (h:NdC w n cs) (hb:Below w.heap.size w w'):NdC w' n cs:=by
  obtain⟨h0,wv,pv,av,rv,e,h1,h2,h3,h4⟩:=h;exact⟨h0,wv,pv,av,rv,e,h1.below hb,h2.below hb,h3.below hb,h4.below hb⟩
theorem TrC.later {w w':World} {cs:List Value} {t:Tr} (h:TrC w cs t) (hb:Below w.heap.size w w'):TrC w' cs t:=by
  induction h with
  |mk n kids cs kp kc css h1 h2 h3 h4 _ ih=>exact .mk n kids cs kp kc css (h1.later hb) h2 h3 (fun k c hk=>(h4 k c hk).below hb) ih
theorem elNd:ElT 22 44 7 152:=elT_of (z:= .agg #[.string ⟨#[]⟩,.string ⟨#[]⟩,.slice none 0 0,.slice none 0 0,.slice none 0 0,.slice none 0 0,.slice none 0 0]) Tryz.underlying22 (by kernel_rfl) rfl (by decide) (by decide)
theorem elInt:ElT 36 3 1 8:=elT_of (z:= .int .i64 0) Tryz.underlying36 (by kernel_rfl) rfl (by decide) (by decide)
theorem nd7_info:(Tryz.prog.info? 44).map (·.size)=some 7:=by kernel_rfl
theorem wsAt_shape {w:World} {v:Value} {l:List (List Pt)} (h:WsAt w v l):∃p n c,v= .slice p n c:=by
  obtain⟨p,c,rfl, -⟩:=h.is;exact⟨_,_,_,rfl⟩
theorem patsAt_shape {w:World} {v:Value} {l:List (List (List Pt))} (h:PatsAt w v l):∃p n c,v= .slice p n c:=by
  obtain⟨p,c,rfl, -⟩:=h.is;exact⟨_,_,_,rfl⟩
theorem asAt_shape {w:World} {v:Value} {l:List (List UInt8×List Pt)} (h:AsAt w v l):∃p n c,v= .slice p n c:=by
  obtain⟨p,c,rfl, -⟩:=h.is;exact⟨_,_,_,rfl⟩
theorem trC_cel {w:World} {c:List Value} {t:Tr} (h:TrC w c t):Cel 8 c:=by
  cases h with
  |mk n kids cs kp kc css h1 h2 h3 h4 h5=>
    obtain⟨_,wv,pv,av,rv,rfl,hw,hp,ha,hr⟩:=h1;obtain⟨_,_,_,rfl⟩:=wsAt_shape hw;obtain⟨_,_,_,rfl⟩:=patsAt_shape hp;obtain⟨_,_,_,rfl⟩:=asAt_shape ha;obtain⟨_,_,_,rfl⟩:=asAt_shape hr;refine⟨rfl,fun v hv=> ?_⟩;simp only[txt,List.cons_append,List.nil_append,List.mem_cons,List.not_mem_nil,or_false]at hv
    rcases hv with rfl|rfl|rfl|rfl|rfl|rfl|rfl|rfl<;>rfl
theorem ownsRow_free {w:World} {B e sz g n c:Nat} {xs:List Value} (h:w.ownsRow B e sz (.slice (some ⟨g,0,none⟩) n c) n xs) (j:Nat):w.frozen? ⟨g,j,none⟩=false:=by
  rcases h.2 with ⟨hv,_⟩|⟨g',cap,cur,hv,_,hh,_⟩
  · simp at hv
  · simp only[Value.slice.injEq,Option.some.injEq,Addr.mk.injEq,and_true,true_and]at hv
    obtain⟨rfl,rfl⟩:=hv;exact frozen_plain hh j
def LdEnd (w1 w':World) (e:Ending) (l:List Nd):Prop:=∃v css,e= .returned v∧LaidR w1 w' v css l
theorem laidL_go {a:Nat} {t:Tr} {r:List Tr} {l:List Nd} :laidL a (t::r) l=laidL a r (laidM t (l.modify a fun n=> { n with kids:=n.kids++ [(l.length:Int)] })):=by rw[laidL]
theorem sizeT_pos (t:Tr):1≤sizeT t:=by cases t;rw[sizeT];omega
theorem sizeL_len:∀l:List Tr,l.length≤sizeL l
  | []=>Nat.le_refl _
  |t::r=>by
    have:=sizeL_len r;have:=sizeT_pos t;rw[sizeL,List.length_cons];omega
theorem sizeL_get:∀ {l:List Tr} {i:Nat} {t:Tr},l[i]? =some t→sizeT t≤sizeL l
  | [],i,t,h=>by simp at h
  |a::r,0,t,h=>by
    simp only[List.getElem?_cons_zero,Option.some.injEq]at h;subst h;rw[sizeL];omega
  |a::r,i+1,t,h=>by
    have:=sizeL_get (l:=r) (i:=i) (t:=t) (by simpa using h);rw[sizeL];omega
mutual
theorem laidM_get:∀(t:Tr) (l:List Nd) (k:Nat),k<l.length→(laidM t l)[k]? =l[k]?
  | .mk n kids,l,k,h=>by rw[laidM,laidL_get l.length kids (l++ [n]) k (by simp;omega) (by omega),List.getElem?_append_left h]
theorem laidL_get:∀(a:Nat) (ts:List Tr) (l:List Nd) (k:Nat),k<l.length→k≠a→(laidL a ts l)[k]? =l[k]?
  |a,[],l,k,h,hk=>by rw[laidL]
  |a,t::r,l,k,h,hk=>by
    have h1:(l.modify a fun n=> { n with kids:=n.kids++ [(l.length:Int)] }).length=l.length:=List.length_modify ..;rw[laidL_go,laidL_get a r _ k (by rw[laidM_length,h1];omega) hk,laidM_get t _ k (by rw[h1];exact h)];have hne:a≠k:=fun e=>hk e.symm;simp[hne]
end
structure LdO (w1 wr:World) (A:Nat) (kids:List Tr) (Fin:List Nd) (i:Nat) (v:Value) (css:List (List Value)) (ns:List Nd) (n:Nd):Prop where
  row:LaidR w1 wr v css ns
  fin:Fin=laidL A (kids.drop i) ns
  node:ns[A]? =some n
  count:n.kids.length=i
  few:ns.length+sizeL (kids.drop i)≤50000
  le:i≤kids.length
theorem LdO.lt {w1 wr:World} {A i:Nat} {kids:List Tr} {Fin:List Nd} {v:Value} {css:List (List Value)} {ns:List Nd} {n:Nd} (h:LdO w1 wr A kids Fin i v css ns n):A<ns.length:=(List.getElem?_eq_some_iff.1 h.node).1
theorem LdO.next {w1 wr w8:World} {A i:Nat} {kids:List Tr} {Fin:List Nd} {v v8:Value} {css css8:List (List Value)} {ns:List Nd} {n:Nd} {t:Tr} (h:LdO w1 wr A kids Fin i v css ns n) (ht:kids[i]? =some t)
    (h8:LaidR w1 w8 v8 css8 (laidM t (ns.modify A fun n=> { n with kids:=n.kids++ [(ns.length:Int)] }))):LdO w1 w8 A kids Fin (i+1) v8 css8 (laidM t (ns.modify A fun n=> { n with kids:=n.kids++ [(ns.length:Int)] })) { n with kids:=n.kids++ [(ns.length:Int)] } :=by
  have hd:kids.drop i=t::kids.drop (i+1):=by
    obtain⟨hi,e⟩:=List.getElem?_eq_some_iff.1 ht;rw[List.drop_eq_getElem_cons hi,e]
  have hf:=h.few;rw[hd,sizeL]at hf;refine⟨h8,by rw[h.fin,hd,laidL_go],?_,by simp[h.count],?_,(List.getElem?_eq_some_iff.1 ht).1⟩
  · rw[laidM_get t _ A (by rw[List.length_modify];exact h.lt)]
    simp[h.node]
  · rw[laidM_length,List.length_modify]
    omega
theorem laid_box {w1 wr w3 w4:World} {css:List (List Value)} {ns:List Nd} {g c i Y:Nat} {cs:List Value} {kv:Value} {o:Obj} (h:LaidR w1 wr (.slice (some ⟨g,0,none⟩) ns.length c) css ns) (h1:css[i]? =some cs) (h2:cs[2]? =some kv)
    (hY:w3.heap[Y]? =some o) (hb:Below wr.heap.size wr w3) (hk:Kept (fun k=>kv.ownBlock=some k) w3 w4) (hYw:Y=wr.heap.size:=by rfl):w4.cell? ⟨g,i*7+2,none⟩=w3.cell? ⟨g,i*7+2,none⟩∧w4.frozen? ⟨g,i*7+2,none⟩=false∧∀u,(w4.setCell ⟨g,i*7+2,none⟩ u).heap[Y]? =some o:=by
  have hg:=h.row.lt g (.inr rfl);have hg4:w4.heap[g]? =w3.heap[g]? :=hk.block g (Nat.lt_of_lt_of_le hg.2 hb.size) (fun e=>h.off i cs kv g h1 h2 e rfl);refine⟨World.cell?_of_block hg4,(World.frozen?_of_block hg4).trans (ownsRow_free (h.new hb).row.own _),fun u=> ?_⟩;rw[Below.heap_setCell _ _ _ _ (by show Y≠g;omega)];exact hk.heap hY (fun e=>by have:=(h.kids_lt h1 h2 e).2;omega)
set_option maxHeartbeats 8000000 in
set_option maxRecDepth 10000 in
theorem plaid_any:∀(n:Nat) (t:Tr),sizeT t≤n→∀(w1 w:World) (c:List Value) (v:Value) (css:List (List Value)) (ns:List Nd),TrC w1 c t→LaidR w1 w v css ns→ns.length+sizeT t≤50000→
    Calls Tryz.prog 20 #[.agg c.toArray,v] w fun e w'=>LdEnd w1 w' e (laidM t ns)
  |0,t,hn=>by have:=sizeT_pos t;omega
  |n+1,t,hn=>by
    intro w1 w c v css ns ht hl hm
    cases ht with
    |mk nd kids cs kp kc kss hnd hkl hkm hsp hsub=>
    obtain⟨hn0,wv,pv,av,rv,e,hw,hp,ha,hr⟩:=hnd;obtain⟨wp,wn,wc,rfl⟩:=wsAt_shape hw;obtain⟨pp,pn,pc,rfl⟩:=patsAt_shape hp;obtain⟨ap,an,ac,rfl⟩:=asAt_shape ha;obtain⟨rp,rn,rc,rfl⟩:=asAt_shape hr;subst e;obtain⟨vp,vc,hv⟩:=hl.row.shape;have hsz:sizeT (.mk nd kids)=1+sizeL kids:=(by rw[sizeT]);rw[hsz]at hn hm;have HS:=yH (And.intro hn hm);have HKIDS:=yH (And.intro hsp (And.intro hsub (And.intro hkl (plaid_any n))));have HPN:=yH (show PN w1 [txt nd.op,txt nd.name,.slice none 0 0,.slice wp wn wc,.slice pp pn pc,.slice ap an ac,.slice rp rn rc] nd from⟨_,_,_,_,_,rfl,hw,hp,ha,hr⟩);have HN0:=yH hn0;have HB:=yH (below_new w);have HM:=yH (show laidM (.mk nd kids) ns=laidL ns.length kids (ns++ [nd])from by rw[laidM]);obtain⟨Fin,hFin⟩:∃Fin,laidM (.mk nd kids) ns=Fin:=⟨_,rfl⟩;rw[hFin]at HM ⊢;unfold txt at HPN ⊢;obtain⟨o1,ho1⟩:∃o:ByteArray,⟨nd.op.toArray⟩=o:=⟨_,rfl⟩;obtain⟨o2,ho2⟩:∃o:ByteArray,⟨nd.name.toArray⟩=o:=⟨_,rfl⟩;rw[ho1,ho2]at HPN ⊢;subst hv;obtain⟨A,hA⟩:∃A,ns.length=A:=⟨_,rfl⟩;have HL:=yH hl;have HA:=yH hA;rw[hA]at HM ⊢;obtain⟨K,hK⟩:∃K,kids.length=K:=⟨_,rfl⟩;have HK:=yH hK;rw[hK]
    have HCEL:=yH (show Cel 7 [.string o1,.string o2,.slice none 0 0,.slice wp wn wc,.slice pp pn pc,.slice ap an ac,.slice rp rn rc]from ⟨rfl,fun v hv=>by
      simp only[List.mem_cons,List.not_mem_nil,or_false]at hv
      rcases hv with rfl|rfl|rfl|rfl|rfl|rfl|rfl<;>rfl⟩)
    have hK0:(K:Int)≤2^63-1:=(by rw[←hK];unfold maxLen at hkm;omega);clear hn hm hsp hsub hkl hkm hw hp ha hr hn0 hFin ho1 ho2 hl hA hK hsz;obtain⟨c7,hc7⟩:∃c7,c7=([.string o1,.string o2,.slice none 0 0,.slice wp wn wc,.slice pp pn pc,.slice ap an ac,.slice rp rn rc]:List Value):=⟨_,rfl⟩;rw[←hc7]at HPN HCEL;have H2:=yH (show c7[2]? =some (.slice none 0 0)from by rw[hc7];rfl)
    have HBC:=yH (show ∀W:World,W.heap[w.heap.size]? =some (.cells (c7++ [Value.slice kp K kc]).toArray 56 (0,0))→W.cell? ⟨w.heap.size,7,none⟩=some (.slice kp K kc)∧W.rangeAt w.heap.size 0 c7 from fun W hW=>by
      have h7:=HCEL.out.1;refine⟨by rw[cell_plain hW,List.getElem?_toArray,List.getElem?_append_right (by omega),h7];rfl,fun j u hu=> ?_⟩;rw[Nat.zero_add,cell_plain hW,List.getElem?_toArray,List.getElem?_append_left (List.getElem?_eq_some_iff.1 hu).1]
      exact hu)
    rw[←hc7];clear hc7;obtain⟨arr,harr⟩:∃arr,(c7++ [Value.slice kp K kc]).toArray=arr:=⟨_,rfl⟩;rw[harr]at HBC ⊢;clear harr;have HR:=yH (show(w.alloc (.cells arr 56)).rangeAt w.heap.size 0 c7 from(HBC.out _ (heap_alloc_new w _)).2);have HW:=yH (And.intro (heap_alloc_new w (.cells arr 56)) (HB.out (.cells arr 56)));go_enter Tryz.func20,Tryz.ntmps20
    go_wp2_with (first
      |(refine wpList_load_mid (by rfl) 44 (.tmp 11) (by rfl) w.heap.size 0 (by rfl) c7 _ HR.out Tryz.underlying44 rfl (by rw[nd7_info,HCEL.out.1]) ?_;have hW5:=HW.out;obtain⟨w5,hw5⟩:∃w5,w.alloc (.cells arr 56)=w5:=⟨_,rfl⟩;rw[hw5]at hW5 ⊢;have HW5:=yH hW5;clear hW5 hw5)
      |(refine wpList_one elNd (by rfl) (.tmp 12) (by rfl) _ c7 rfl HCEL.out (by rfl) ?_)
      |(at_builtin;refine wpList_push elNd (by rfl) (.tmp 10) (.tmp 13) (by rfl) (C:=w5.heap.size) (y:=nd) (HL.out.new HW5.out.2).row HCEL.out (NewAt.of0 fun _ _=>HPN.out) (HL.out.new HW5.out.2).size (fun k hk=>((HL.out.new HW5.out.2).row.lt k (.inr hk)).2) (by have:=HS.out.2;omega) (by rw[HA.out];rfl) (by rfl) (HL.out.new HW5.out.2).size ?_;intro p6 c6 F6 w6 hr6 hF6 hat6 hk6;have HBX:=yH (HBC.out _ (hk6.heap HW5.out.1 (fun e=>by have:=(HL.out.row.lt _ (.inr e)).2;omega)));have HL6:=yH ((HL.out.new HW5.out.2).push hr6 (fun k hk=>(hF6 k hk).elim (fun h=>h) fun h=>by omega) hk6 hat6 H2.out HN0.out);rw[HA.out]at HL6;rw[HA.out];have b7:=HBX.out.1;clear hr6 hF6 hat6 hk6))
    go_loopw [1,18] (fun v iv wr=> ∃(i:Nat) (css':List (List Value)) (ns':List Nd) (n':Nd),iv= .int .i64 (i:Int)∧LdO w1 wr A kids Fin i v css' ns' n') (fun _ iv _=>K-(intOf iv).toNat)
    case atStart=>
      have hk:=HK.out;refine⟨0,_,_,nd,rfl,HL6.out,HM.out,?_,by rw[HN0.out];rfl,?_,by omega⟩
      · rw[List.getElem?_append_right (by rw[HA.out];exact Nat.le_refl _),HA.out,Nat.sub_self];rfl
      · have:=HS.out.2;simp;omega
    case round=>
      obtain⟨i,css',ns',n',rfl,hO⟩:=hrel;obtain⟨vp',vc',hv⟩:=hO.row.row.shape;subst hv;have HO:=yH hO
      by_cases hlt:i<K
      · have hlt0:(i:Int)<(K:Int):=by omega
        obtain⟨t,ht⟩:∃t,kids[i]? =some t:=⟨_,List.getElem?_eq_getElem (by rw[HK.out];exact hlt)⟩;obtain⟨ci,hci⟩:∃ci,kss[i]? =some ci:=⟨_,List.getElem?_eq_getElem (by rw[HKIDS.out.2.2.1,HK.out];exact hlt)⟩;obtain⟨cA,hcA⟩:∃cA,css'[A]? =some cA:=⟨_,List.getElem?_eq_getElem (by rw[hO.row.row.len];exact hO.lt)⟩;have hcelA:=hO.row.row.each cA (List.mem_of_getElem? hcA);obtain⟨kv,hkv⟩:∃kv,cA[2]? =some kv:=⟨_,List.getElem?_eq_getElem (by rw[hcelA.1];decide)⟩;have hkid:=hO.row.kids A cA n' kv hcA hO.node hkv;obtain⟨q,kc',hv⟩:=hkid.shape;subst hv;obtain⟨g,cap,hv,hspA⟩:=hO.row.row.spot hcA;simp only[Value.slice.injEq,true_and]at hv;obtain⟨rfl,rfl⟩:=hv;obtain⟨b,o,hkp,hsp⟩:=(HKIDS.out.1 i ci hci).below hO.row.below
        have HSP:=yH (show wr.rangeAt b (o+i*8) ci from fun j u hu=>by
          have:=hsp j u hu
          rwa [Nat.add_assoc]at this ⊢)
        have hcelI:Cel 8 ci:=trC_cel (HKIDS.out.2.1 i ci t hci ht);have HCI:=yH hcelI;have hsz:=hO.row.size;have hgA:=hO.row.row.lt g (.inr rfl);have HKD:=yH hkid
        have HW3:=yH (show ∀W:World,W=wr.alloc (.cells ci.toArray 56)→W.heap[wr.heap.size]? =some (.cells ci.toArray 56 (0,0))∧Below wr.heap.size wr W∧W.cell? ⟨g,A*7+2,none⟩=some (.slice q n'.kids.length kc')from fun W hW=>by
          subst hW
          exact⟨heap_alloc_new wr _,below_new wr _,cell_alloc (hspA 2 _ hkv) _⟩)
        have HI:=yH (And.intro hlt (And.intro ht (And.intro hcA hkv)));have HREC:=yH (fun (W:World) (u:Value) (dss:List (List Value)) (ms:List Nd) (hl:LaidR w1 W u dss ms) (hm:ms.length+sizeT t≤50000)=>HKIDS.out.2.2.2 t (by have:=HS.out.1;have:=sizeL_get ht;omega) w1 W ci u dss ms (HKIDS.out.2.1 i ci t hci ht) hl hm)
        have HT:=yH (show ns'.length+sizeT t≤50000 from by
          have hf:=hO.few;obtain⟨hi,e⟩:=List.getElem?_eq_some_iff.1 ht;rw[List.drop_eq_getElem_cons hi,sizeL,e]at hf
          omega)
        have HNK:=yH (show n'.kids.length≤100000 from by rw[hO.count];have:=hO.few;have:=sizeL_len kids;have:=HS.out.2;have:=HK.out;omega);obtain⟨N,hN⟩:∃N,ns'.length=N:=⟨_,rfl⟩;have HN:=yH hN;have hAN:A<N:=(by rw[←hN];exact hO.lt);have hAN0:(A:Int)<(N:Int):=(by omega);have hN9:(N:Int)≤2^63-1:=(by have:=HT.out;have:=HN.out;omega);obtain⟨m,hm⟩:∃m,n'.kids.length=m:=⟨_,rfl⟩;have HMM:=yH hm;rw[hm]at HW3;subst hkp;rw[hN];clear hO hcelA hkid hsp hcelI hcA hkv hci ht hlt hN hm hspA
        go_wp2_with (first
          |(refine wpList_load_mid (by rfl) 56 (.tmp 20) (by rfl) b (o+i*8) (by rfl) ci _ HSP.out Tryz.underlying56 rfl (by rw[node_info,HCI.out.1]) ?_)
          |(refine wpList_store_row (by rfl) 56 (.tmp 7) (.tmp 21) (by rfl) wr.heap.size ci.toArray (by rfl) (by rfl) 56 zeroN.toArray (heap_alloc_new wr _) (by rw[node_info];simp[HCI.out.1]) (by simp[HCI.out.1,zeroN,ofC]) (all_oneCell_toArray HCI.out.2) ?_;rw[World.setRow_alloc_new];obtain⟨w3,hw3⟩:∃w3,w3=wr.alloc (.cells ci.toArray 56):=⟨_,rfl⟩;have HX3:=yH (HW3.out w3 hw3);rw[←hw3];have a2:=HX3.out.2.2;clear hw3)
          |(refine wpList_one elInt (by rfl) (.tmp 30) (by rfl) _ [.int .i64 (N:Int)] rfl ⟨rfl,by simp;rfl⟩ (by rfl) ?_)
          |(at_builtin;refine wpList_push elInt (by rfl) (.tmp 28) (.tmp 31) (by rfl) (w:=w3) (C:=w3.heap.size) (l:=n'.kids) (cs:= [.int .i64 (N:Int)]) (y:=(N:Int)) (HKD.out.kept (Kept.of_below (D:=fun _=>False) HX3.out.2.1) fun _ _ h=>h) ⟨rfl,by simp;rfl⟩ (NewAt.of0 fun _ _=>rfl) (Nat.le_trans hsz HX3.out.2.1.size) (fun k hk=>Nat.lt_of_lt_of_le (HKD.out.lt k (.inr hk)).2 HX3.out.2.1.size) HNK.out (by rw[HMM.out];rfl) (by rfl) (Nat.le_trans hsz HX3.out.2.1.size) ?_;intro p4 c4 F4 w4 hr4 hF4 hat4 hk4;have HKI:=yH ((HO.out.row.new HX3.out.2.1).kid rfl HI.out.2.2.1 HO.out.node HI.out.2.2.2 hr4 (fun k hk=>(hF4 k hk).elim (fun h=>h) fun h=>by omega) hk4 hat4);have HB7:=yH (laid_box (i:=A) HO.out.row HI.out.2.2.1 HI.out.2.2.2 HX3.out.1 HX3.out.2.1 hk4);rw[HMM.out]at HKI ⊢;rw[HN.out]at HKI;have b2:=HB7.out.1.trans a2;have f2:=HB7.out.2.1;clear hr4 hF4 hat4 hk4 a2)
          |(refine wpList_load_row (by rfl) 56 (.tmp 7) (by rfl) wr.heap.size (by rfl) 56 ci.toArray (0,0) _ (HB7.out.2.2 _) Tryz.underlying56 rfl (by rw[node_info];simp[HCI.out.1]) ?_)
          |(go_at_call 20;refine(HREC.out _ _ _ _ HKI.out (by rw[List.length_modify];exact HT.out)).mono ?_;rintro en w8 ⟨v8,css8,rfl,hl8⟩;have HL8:=yH hl8;clear hl8))
        go_roundw
        case rel=>
          have hN:=HN.out;subst hN;exact⟨i+1,css8,_,_,by go_num,HO.out.next HI.out.2.1 HL8.out⟩
        case measure=>
          have:=HI.out.1;simp[intOf];omega
      · obtain rfl:i=K:=by have:=hO.le;have:=HK.out;omega
        have hf:=hO.fin;rw[List.drop_of_length_le (by rw[HK.out];exact Nat.le_refl _),laidL]at hf;have HF:=yH (show LaidR w1 wr (.slice vp' ns'.length vc') css' Fin from by rw[hf];exact hO.row);clear hO hf hlt;go_wp2_with fail;go_ret;exact⟨_,_,rfl,HF.out⟩
end Go.Proofs.YtakceggnadagmaaGreatDoor
namespace Go.Proofs.YtakceggnadagmaaGreatDoor
open Go Go.Lib GlyphMath LexMath TreeMath
theorem teb_low {c:Nat} (h:c<128):eb c= [UInt8.ofNat c]:=by unfold eb;rw[if_pos h]
theorem eb_high {c:Nat} (h:¬c<128) (hc:c≤1114111):∀b∈eb c,128≤b.toNat:=by
  intro b hb;unfold eb at hb;rw[if_neg h]at hb
  split at hb
  · simp only[List.mem_cons,List.not_mem_nil,or_false]at hb
    rcases hb with rfl|rfl<;>rw[UInt8.toNat_ofNat']<;>omega
  · split at hb
    · simp only[List.mem_cons,List.not_mem_nil,or_false]at hb
      rcases hb with rfl|rfl|rfl<;>rw[UInt8.toNat_ofNat']<;>omega
    · simp only[List.mem_cons,List.not_mem_nil,or_false]at hb
      rcases hb with rfl|rfl|rfl|rfl<;>rw[UInt8.toNat_ofNat']<;>omega
theorem anyIn_append (a b cs:List UInt8):anyIn (a++b) cs=(anyIn a cs||anyIn b cs):=List.any_append
theorem any_enc {cs:List UInt8} (hcs:∀c∈cs,c.toNat<128):∀(l:List Nat),(∀c∈l,c≤1114111∧(c<128→cs.contains (UInt8.ofNat c)=false))→anyIn (enc l) cs=false
  | [],_=>rfl
  |c::r,h=>by
    rw[enc,anyIn_append,any_enc hcs r fun x hx=>h x (List.mem_cons_of_mem _ hx),Bool.or_false];have hc:=h c (by simp)
    by_cases h1:c<128
    · rw[teb_low h1]
      unfold anyIn;rw[List.any_cons,List.any_nil,Bool.or_false];exact hc.2 h1
    · unfold anyIn
      rw[List.any_eq_false];intro b hb;rw[not_in (eb_high h1 hc.1 b hb) hcs];simp
theorem got_mem (S:Nat→Bool):∀(xs:List Nat) (c:Nat),c∈got S xs→S c=false
  | [],_,h=>by cases h
  |a::r,c,h=>by
    unfold got at h
    cases hs:S a with
    |true=>rw[hs]at h;simp at h
    |false=>
      rw[hs]at h;simp only[Bool.false_eq_true,↓reduceIte,List.mem_cons]at h
      rcases h with rfl|h
      · exact hs
      · exact got_mem S r c h
theorem got_all {S:Nat→Bool} {xs:List Nat} (h:∀c∈xs,GoodL c):∀c∈got S xs,GoodL c:=fun c hc=>h c (by rw[←got_left S xs];exact List.mem_append_left _ hc)
theorem enc_nil {l:List Nat} (h:(enc l).isEmpty=true):l= []:=by
  have:=(enc_length l).1;rw[List.isEmpty_iff]at h;rw[h,List.length_nil]at this;exact List.eq_nil_of_length_eq_zero (by omega)
theorem tenc_text:∀(l:List Nat),(∀c∈l,GoodL c)→firstBad ⟨(enc l).toArray⟩=none
  | [],_=>rfl
  |c::r,h=>by
    have hc:=h c (by simp);have ih:=tenc_text r fun x hx=>h x (List.mem_cons_of_mem _ hx);have e:(⟨(enc (c::r)).toArray⟩:ByteArray)=⟨(eb c).toArray⟩++⟨(enc r).toArray⟩:=(by rw[bytes_append];rfl);rw[e,firstBad_append _ _ (firstBad_eb hc),ih];rfl
theorem textT_enc {l:List Nat} (h:∀c∈l,GoodL c):textT (enc l)=true:=by
  unfold textT isText;rw[show firstBad (T (enc l))=none from tenc_text l h];rfl
theorem textT_append {a b:List UInt8} (ha:textT a=true) (hb:textT b=true):textT (a++b)=true:=by
  unfold textT at ha hb ⊢;unfold isText at ha hb ⊢;rw[show T (a++b)=T a++T b from(bytes_append a b).symm];have h1:firstBad (T a)=none:=(by simpa using ha);have h2:firstBad (T b)=none:=(by simpa using hb);rw[firstBad_append _ _ h1,h2];rfl
theorem nameT_enc {l:List Nat} (h:∀c∈l,GoodL c):nameT (enc l)=nameL l:=by
  unfold nameT;rw[show letters (T (enc l))=l from letters_enc l h]
theorem side_append (f:Pt→Bool) (p:Pt):∀(ps:List Pt) (a:Option Pt),sideT f a (ps++ [p])=(sideT f a ps&&(f p&& !((ps.getLast?.or a).any fun x=>oneT x p)))
  | [],a=>by simp[sideT]
  |q::r,a=>by
    rw[List.cons_append,sideT,sideT,side_append f p r (some q)]
    have e:((q::r).getLast?.or a)=(r.getLast?.or (some q)):=by
      cases r with
      |nil=>rfl
      |cons b s=>rw[List.getLast?_cons_cons];cases h:(b::s).getLast? with
        |none=>simp at h
        |some x=>rfl
    rw[e,Bool.and_assoc,Bool.and_assoc]
structure Well (k:Nat) (wi:Bool) (ps:List Pt):Prop where
  side:sideT (partT (rowT k) wi) none ps=true
  small:∀p∈ps,Small p.word
theorem Well.nil (k:Nat) (wi:Bool):Well k wi []:=⟨rfl,fun _ h=>by cases h⟩
theorem Well.add {k:Nat} {wi:Bool} {ps:List Pt} (h:Well k wi ps) {p:Pt} (hp:partT (rowT k) wi p=true) (ho:∀x,oneT x p=false) (hs:Small p.word):Well k wi (ps++ [p]):=by
  refine⟨?_,fun x hx=> ?_⟩
  · rw[side_append,h.side,hp]
    have:((ps.getLast?.or none).any fun x=>oneT x p)=false:=by
      cases ps.getLast?.or none with
      |none=>rfl
      |some x=>exact ho x
    rw[this];rfl
  · rcases List.mem_append.1 hx with hx|hx
    · exact h.small x hx
    · obtain rfl:x=p:=by simpa using hx
      exact hs
theorem lit_ne (ps:List Pt) (t:List UInt8) (q:Bool):lit ps t q≠ []:=by
  rcases List.eq_nil_or_concat ps with rfl|⟨r,p,rfl⟩
  · simp[lit]
  · rw[List.concat_eq_append,lit_last]
    split<;>simp
theorem litT_append {wi:Bool} {a b:List UInt8} {q:Bool} {p:Pt} (hp:p.text=a∧p.q=q) (ha:litT wi p=true) (hb:litT wi ⟨1,b,[],[],q⟩=true):litT wi { p with text:=a++b } =true:=by
  obtain⟨rfl,rfl⟩:=hp;unfold litT at ha hb ⊢;simp only[Bool.and_eq_true,Bool.or_eq_true]at ha hb ⊢;refine⟨textT_append ha.1 hb.1,?_⟩
  rcases ha.2 with h|⟨h1,h2⟩
  · exact .inl h
  · rcases hb.2 with h|⟨h3,h4⟩
    · exact .inl h
    · refine .inr ⟨?_,?_⟩
      · cases hh:p.text with
        |nil=>rw[hh]at h1;simp at h1
        |cons x y=>rfl
      · rw[anyIn_append]
        simp only[Bool.not_eq_true',Bool.or_eq_false_iff]at h2 h4 ⊢;exact⟨h2,h4⟩
theorem Well.lit {k:Nat} {wi:Bool} {ps:List Pt} (h:Well k wi ps) {t:List UInt8} {q:Bool} (ht:litT wi ⟨1,t,[],[],q⟩=true):Well k wi (lit ps t q):=by
  have hn:partT (rowT k) wi ⟨1,t,[],[],q⟩=true:=by
    unfold partT;rw[if_pos rfl,ht];rfl
  rcases List.eq_nil_or_concat ps with rfl|⟨r,p,rfl⟩
  · refine⟨?_,fun x hx=> ?_⟩
    · show sideT _ none [_]=true
      rw[sideT,hn];rfl
    · obtain rfl:x=_:=by simpa [LexMath.lit]using hx
      exact Small.nil
  · rw[List.concat_eq_append]at h ⊢
    have hs:=h.side;rw[side_append,Bool.and_eq_true,Bool.and_eq_true]at hs;rw[lit_last]
    split
    · rename_i hk
      refine⟨?_,fun x hx=> ?_⟩
      · rw[side_append,hs.1]
        have hpt:=hs.2.1;unfold partT at hpt ⊢;rw[if_pos hk.1,Bool.and_eq_true,Bool.and_eq_true]at hpt;rw[if_pos hk.1,hpt.1,hpt.2.1,litT_append ⟨rfl,hk.2⟩ hpt.2.2 ht];have e:∀x:Pt,oneT x { p with text:=p.text++t } =oneT x p:=fun x=>rfl;simp only[e];rw[hs.2.2];rfl
      · rcases List.mem_append.1 hx with hx|hx
        · exact h.small x (List.mem_append_left _ hx)
        · obtain rfl:x=_:=by simpa using hx
          exact h.small p (by simp)
    · rename_i hk
      refine⟨?_,fun x hx=> ?_⟩
      · rw[side_append,h.side,hn]
        have:((r++ [p]).getLast?.or none)=some p:=(by simp);rw[this]
        have e:oneT p ⟨1,t,[],[],q⟩=false:=by
          unfold oneT
          by_cases h1:p.kind=1
          · have h2:p.q≠q:=fun e=>hk ⟨h1,e⟩
            have h3:(p.q==q)=false:=(by simpa using h2);rw[h3];simp
          · have h3:(p.kind==1)=false:=by simpa using h1
            rw[h3];rfl
        simp[e]
      · rcases List.mem_append.1 hx with hx|hx
        · exact h.small x hx
        · obtain rfl:x=_:=by simpa using hx
          exact Small.nil
theorem one_not {p:Pt} (h:(p.kind==1)=false):∀x,oneT x p=false:=fun x=>by unfold oneT;rw[h];simp
theorem quoted_lit {wi:Bool} {l:List Nat} (h:∀c∈l,GoodL c):litT wi ⟨1,enc l,[],[],true⟩=true:=by
  unfold litT;rw[show textT (Pt.text ⟨1,enc l,[],[],true⟩)=true from textT_enc h];rfl
theorem low_in (p:Nat→Bool) (h:(List.range 128).all p=true) {c:Nat} (hc:c<128):p c=true:=List.all_eq_true.1 h c (List.mem_range.2 hc)
theorem bare_lit {wi:Bool} {l:List Nat} (h:∀c∈l,GoodL c) (hn:l≠ []) (hs:∀c∈l,(begins c||ends c wi)=false):litT wi ⟨1,enc l,[],[],false⟩=true:=by
  unfold litT;rw[show textT (Pt.text ⟨1,enc l,[],[],false⟩)=true from textT_enc h]
  have he:(enc l).isEmpty=false:=by
    cases hh:(enc l).isEmpty with
    |false=>rfl
    |true=>exact absurd (enc_nil hh) hn
  have ha:anyIn (enc l) (if wi=true then metaW else metaB)=false:=by
    cases wi with
    |true=>
      refine any_enc (by decide) l fun c hc=>⟨(h c hc).2.1,fun h1=> ?_⟩;have h2:=low_in (fun c=>(begins c||ends c true)|| !metaW.contains (UInt8.ofNat c)) (by decide+kernel) h1;simp only[hs c hc,Bool.false_or]at h2
      simpa using h2
    |false=>
      refine any_enc (by decide) l fun c hc=>⟨(h c hc).2.1,fun h1=> ?_⟩;have h2:=low_in (fun c=>(begins c||ends c false)|| !metaB.contains (UInt8.ofNat c)) (by decide+kernel) h1;simp only[hs c hc,Bool.false_or]at h2
      simpa using h2
  show(true&&(false||(!(enc l).isEmpty&& !anyIn (enc l) _)))=true;rw[he,ha];rfl
theorem other_low {c:Nat} (h:other c=true):c<128∧GoodL c:=by
  unfold other at h;simp only[Bool.or_eq_true,decide_eq_true_eq,beq_iff_eq]at h;unfold GoodL;omega
theorem other_enc {c:Nat} (h:other c=true):otherT (enc [c])=true:=by
  obtain⟨h1,_⟩:=other_low h;have h2:=low_in (fun c=> !other c||otherT (enc [c])) (by decide+kernel) h1
  simpa [h]using h2
theorem parameter_well {xs l r:List Nat} (hg:∀c∈xs,GoodL c) (h:parameterM xs= .ok (l,r)):nameT (enc l)=nameL l∧(nameT (enc l)||otherT (enc l))=true∧(other (next xs)=false→nameL l=true):=by
  unfold parameterM at h
  split at h
  · rename_i ho
    cases h
    refine⟨nameT_enc fun c hc=> ?_,?_,fun hf=> ?_⟩
    · obtain rfl:c=next xs:=by simpa using hc
      exact(other_low ho).2
    · rw[other_enc ho,Bool.or_true]
    · rw[ho]at hf;cases hf
  · split at h
    · rename_i hn
      cases h
      have e:=nameT_enc (got_all (S:=fun r=> !moreR r) hg);exact⟨e,by rw[e,hn];rfl,fun _=>hn⟩
    · cases h
theorem op_well {nm:Bool} {xs r:List Nat} {o:List UInt8} (h:opM nm xs=some (o,r)):(o= [58,45]∨o= [58,43])∨(o= [58,61]∧nm=true):=by
  unfold opM at h
  split at h
  · cases h;exact .inl (.inl rfl)
  · split at h
    · cases h;exact .inl (.inr rfl)
    · split at h
      · rename_i hn
        split at h
        · cases h;exact .inr ⟨rfl,hn⟩
        · cases h
      · cases h
def BraceWell (k:Nat) (f:List Nat→Res Pt):Prop:=∀xs p r,(∀c∈xs,GoodL c)→xs.length≤4000→f xs= .ok (p,r)→p.kind=2∧varT (rowT k) p=true∧Small p.word
def PartsWell (k:Nat) (f:List Nat→Res (List Pt)):Prop:=∀xs ps r,(∀c∈xs,GoodL c)→xs.length≤4000→f xs= .ok (ps,r)→rowT k ps=true∧Small ps
theorem first_other {c:Nat} (h:firstR c=true):other c=false:=by
  unfold firstR at h;unfold other;rw[decide_eq_true_eq]at h;have h1:¬(49≤c∧c≤57):=(by omega);have h2:(c==64)=false:=(by simp;omega);have h3:(c==35)=false:=(by simp;omega);have h4:(c==63)=false:=(by simp;omega);rw[decide_eq_false h1,h2,h3,h4];rfl
theorem operation_well {k:Nat} {f:List Nat→Res (List Pt)} (hf:PartsWell k f) {l xs r:List Nat} {p:Pt} (hg:∀c∈xs,GoodL c) (hx:xs.length≤4000) (hl:nameT (enc l)=nameL l∧(nameT (enc l)||otherT (enc l))=true) (h:operationM f l xs= .ok (p,r)):p.kind=2∧varT (rowT k) p=true∧Small p.word:=by
  unfold operationM at h
  split at h
  · rename_i hc
    cases hp:parameterM xs with
    |error e=>rw[hp]at h;cases h
    |ok a=>
      obtain⟨l',r'⟩:=a;rw[hp]at h
      cases h
      obtain⟨h1,h2,h3⟩:=parameter_well hg hp;refine⟨rfl,?_,Small.nil⟩;unfold varT;have hn:=h3 (first_other hc.2);rw[hn]at h1;simp[h1]
  · cases hp:opM (nameL l) xs with
    |none=>rw[hp]at h;cases h
    |some a=>
      obtain⟨o,r'⟩:=a;rw[hp]at h;simp only at h;have ho:=op_suf hp
      cases hq:f r' with
      |error e=>rw[hq]at h;cases h
      |ok b=>
        obtain⟨w,r2⟩:=b;rw[hq]at h
        cases h
        obtain⟨h1,h2⟩:=hf r' w _ (ho.1.good hg) (by have:=ho.2;omega) hq;refine⟨rfl,?_,h2⟩;unfold varT;simp only[hl.2,h1]
        rcases op_well hp with (rfl|rfl)|⟨rfl,hn⟩
        · simp
        · simp
        · simp[hl.1,hn]
theorem braces_well {k:Nat} {f:List Nat→Res (List Pt)} (hf:PartsWell k f) (lim:Bool):BraceWell k (bracesM lim f):=by
  intro xs p r hg hx h;unfold bracesM at h
  split at h
  · cases h
  · cases hp:parameterM xs with
    |error e=>rw[hp]at h;cases h
    |ok a=>
      obtain⟨l,r'⟩:=a;rw[hp]at h;simp only at h;obtain⟨h1,h2,h3⟩:=parameter_well hg hp;obtain⟨s1,s2,s3⟩:=parameter_suf hp
      split at h
      · obtain⟨_,rfl⟩:=close_less h
        refine⟨rfl,?_,Small.nil⟩;unfold varT;simp[h2]
      · cases hq:operationM f l r' with
        |error e=>rw[hq]at h;cases h
        |ok b=>
          obtain⟨p',r2⟩:=b;rw[hq]at h;simp only at h;obtain⟨_,rfl⟩:=close_less h;exact operation_well hf (s1.good hg) (by omega) ⟨h1,h2⟩ hq
theorem more_128 {c:Nat} (h:moreR c=true):c<128:=by
  unfold moreR firstR at h;simp only[Bool.or_eq_true,decide_eq_true_eq]at h;omega
theorem treckons_low {c:Nat} (h:reckons c=true):c<128:=by
  unfold reckons at h;simp only[Bool.or_eq_true,beq_iff_eq]at h
  rcases h with h|h
  · exact more_128 h
  · omega
theorem arith_word:∀(xs:List Nat) (n:Nat) (acc l r:List Nat),arithM xs n acc= .ok (l,r)→∃m,l=acc++m∧arithT (enc m) n=true
  | [],_,_,_,_,h=>by cases h
  |c::r,n,acc,l,r',h=>by
    rw[arithM]at h
    split at h
    · rename_i hc
      split at h
      · cases h
        exact⟨[],by simp,by rw[hc.1];rfl⟩
      · cases h
    · rename_i hc
      split at h
      · rename_i hr
        obtain⟨m,rfl,hm⟩:=arith_word r _ _ _ _ h;refine⟨c::m,by simp,?_⟩;have h1:=treckons_low hr;rw[enc,teb_low h1,List.singleton_append,arithT]
        by_cases h40:c=40
        · subst h40
          rw[if_pos rfl]at hm;rw[if_pos (by decide)];exact hm
        · have e40:¬UInt8.ofNat c=40:=fun e=>h40 (by
            have:=congrArg UInt8.toNat e;rw[byte_of c (by omega)]at this
            exact this)
          rw[if_neg h40]at hm;rw[if_neg e40]
          by_cases h41:c=41
          · subst h41
            rw[if_pos rfl]at hm;rw[if_pos (by decide),hm];have hn:¬n=0:=fun e=>hc ⟨e,rfl⟩;simp[hn]
          · have e41:¬UInt8.ofNat c=41:=fun e=>h41 (by
              have:=congrArg UInt8.toNat e;rw[byte_of c (by omega)]at this
              exact this)
            rw[if_neg h41]at hm;rw[if_neg e41,hm,Bool.and_true];have h2:=low_in (fun c=> !reckons c||reckT (UInt8.ofNat c)) (by decide+kernel) h1
            simpa [hr]using h2
      · cases h
theorem escaped_well {k:Nat} {wi:Bool} {xs ys:List Nat} {ps qs:List Pt} (hg:∀c∈xs,GoodL c) (hw:Well k wi ps) (h:escapedM xs ps= .ok (qs,ys)):Well k wi qs∧qs≠ []:=by
  unfold escapedM at h
  cases ht:xs.tail with
  |nil=>rw[ht]at h;cases h
  |cons c r=>
    rw[ht]at h
    cases h
    have hc:GoodL c:=hg c (List.mem_of_mem_tail (by rw[ht];simp))
    exact⟨hw.lit (quoted_lit (fun x hx=>by
      obtain rfl:x=c:=by simpa using hx
      exact hc)),lit_ne _ _ _⟩
theorem single_well {k:Nat} {wi:Bool} {xs ys:List Nat} {ps qs:List Pt} (hg:∀c∈xs,GoodL c) (hw:Well k wi ps) (h:singleM xs ps= .ok (qs,ys)):Well k wi qs∧qs≠ []:=by
  unfold singleM at h
  split at h
  · cases h
  · cases h
    exact⟨hw.lit (quoted_lit (got_all fun c hc=>hg c (List.mem_of_mem_tail hc))),lit_ne _ _ _⟩
theorem good_lits {a:Nat} (h:0<a∧a<128):∀c∈ [a],GoodL c:=fun c hc=>by
  obtain rfl:c=a:=(by simpa using hc);unfold GoodL;omega
theorem enc_one {a:Nat} (h:a<128):enc [a]= [UInt8.ofNat a]:=by rw[enc,teb_low h];rfl
theorem dollar_well {k:Nat} {wi:Bool} {br:List Nat→Res Pt} (hb:BraceWell k br) {q:Bool} {xs ys:List Nat} {ps qs:List Pt} (hg:∀c∈xs,GoodL c) (hx:xs.length≤4000) (hw:Well k wi ps) (h:dollarM br q xs ps= .ok (qs,ys)):Well k wi qs∧qs≠ []:=by
  have hgt:∀c∈xs.tail,GoodL c:=fun c hc=>hg c (List.mem_of_mem_tail hc);have hxt:xs.tail.length≤4000:=(by rw[List.length_tail];omega);unfold dollarM at h
  split at h
  · rename_i r hs
    have h1:=takes_less hs (by decide)
    cases hp:br r with
    |error e=>rw[hp]at h;cases h
    |ok a=>
      obtain⟨p,r'⟩:=a;rw[hp]at h
      cases h
      obtain⟨h2,h3,h4⟩:=hb r p _ (h1.1.good hgt) (by have:=h1.2;omega) hp;refine⟨hw.add (p:= { p with q:=q }) ?_ (one_not (by rw[show Pt.kind { p with q:=q } =2 from h2];rfl)) h4,by simp⟩;unfold partT;have e1:¬Pt.kind { p with q:=q } =1:=(by rw[show Pt.kind { p with q:=q } =2 from h2];decide);rw[if_neg e1,if_pos (show Pt.kind { p with q:=q } =2 from h2)];exact h3
  · split at h
    · rename_i r hs
      cases hp:arithM r 0 []with
      |error e=>rw[hp]at h;cases h
      |ok a=>
        obtain⟨l,r'⟩:=a;rw[hp]at h
        cases h
        obtain⟨m,rfl,hm⟩:=arith_word _ _ _ _ _ hp;refine⟨hw.add ?_ (one_not rfl) Small.nil,by simp⟩;unfold partT;rw[if_neg (show ¬(3:Int)=1 by decide),if_neg (show ¬(3:Int)=2 by decide),if_pos rfl]
        simpa using hm
    · split at h
      · cases hp:parameterM xs.tail with
        |error e=>rw[hp]at h;cases h
        |ok a=>
          obtain⟨l,r'⟩:=a;rw[hp]at h
          cases h
          obtain⟨h1,h2,h3⟩:=parameter_well hgt hp;refine⟨hw.add ?_ (one_not rfl) Small.nil,by simp⟩;unfold partT;rw[if_neg (show ¬(2:Int)=1 by decide),if_pos rfl];unfold varT;simp[h2]
      · cases h
        have:=quoted_lit (wi:=wi) (good_lits (a:=36) (by decide));rw[enc_one (by decide)]at this;exact⟨hw.lit this,lit_ne _ _ _⟩
theorem within_well {k:Nat} {wi:Bool} {br:List Nat→Res Pt} (hb:BraceWell k br) {xs ys:List Nat} {ps qs:List Pt} (hg:∀c∈xs,GoodL c) (hx:xs.length≤4000) (hw:Well k wi ps) (h:withinM br xs ps= .ok (qs,ys)):Well k wi qs∧qs≠ []:=by
  unfold withinM at h
  split at h
  · cases h
  · split at h
    · unfold escapedWithinM at h
      cases ht:xs.tail with
      |nil=>rw[ht]at h;cases h
      |cons c r=>
        rw[ht]at h
        cases h
        have hc:GoodL c:=hg c (List.mem_of_mem_tail (by rw[ht];simp));have h92:=quoted_lit (wi:=wi) (good_lits (a:=92) (by decide));rw[enc_one (by decide)]at h92
        have hw2:Well k wi (if acts c=true then ps else lit ps [92] true):=by
          split
          · exact hw
          · exact hw.lit h92
        exact⟨hw2.lit (quoted_lit (fun x hx=>by
          obtain rfl:x=c:=by simpa using hx
          exact hc)),lit_ne _ _ _⟩
    · split at h
      · exact dollar_well hb hg hx hw h
      · cases h
        exact⟨hw.lit (quoted_lit (got_all hg)),lit_ne _ _ _⟩
theorem doubleL_well {k:Nat} {wi:Bool} {br:List Nat→Res Pt} (hb:BraceWell k br) (ho:BraceOk br):∀(f:Nat) (xs ys:List Nat) (ps qs:List Pt),(∀c∈xs,GoodL c)→xs.length≤4000→Well k wi ps→doubleL br f xs ps= .ok (qs,ys)→Well k wi qs∧(ps≠ []→qs≠ [])
  |0,_,_,_,_,_,_,_,h=>by cases h
  |f+1,xs,ys,ps,qs,hg,hx,hw,h=>by
    rw[doubleL]at h
    split at h
    · cases h;exact⟨hw,id⟩
    · rename_i hs
      cases hq:withinM br xs ps with
      |error e=>rw[hq]at h;cases h
      |ok a=>
        obtain⟨ps',xs'⟩:=a;rw[hq]at h;simp only at h
        have hn:next xs≠34:=fun e=>by
          rw[takes_one,if_pos ⟨e,fun e'=>by rw[e']at e;cases e⟩]at hs
          cases hs
        have hl:=(within_less ho hq hn).1;obtain⟨h1,h2⟩:=within_well hb hg hx hw hq;obtain⟨h3,h4⟩:=doubleL_well hb ho f xs' ys ps' qs (hl.1.good hg) (by have:=hl.2;omega) h1 h;exact⟨h3,fun _=>h4 h2⟩
theorem within_some {br:List Nat→Res Pt} (f:Nat) {xs ys:List Nat} {ps qs:List Pt} (hn:next xs≠34) (h:doubleL br (f+1) xs ps= .ok (qs,ys)):∃ps' xs',withinM br xs ps= .ok (ps',xs')∧doubleL br f xs' ps'= .ok (qs,ys):=by
  rw[doubleL,takes_one,if_neg (fun e=>hn e.1)]at h;simp only at h
  cases hq:withinM br xs ps with
  |error e=>rw[hq]at h;cases h
  |ok a=>
    obtain⟨ps',xs'⟩:=a;rw[hq]at h;exact⟨ps',xs',rfl,h⟩
theorem double_well {k:Nat} {wi:Bool} {br:List Nat→Res Pt} (hb:BraceWell k br) (ho:BraceOk br) {xs ys:List Nat} {ps qs:List Pt} (hg:∀c∈xs,GoodL c) (hx:xs.length≤4000) (hw:Well k wi ps) (h:doubleM br xs ps= .ok (qs,ys)):Well k wi qs∧qs≠ []:=by
  have hgt:∀c∈xs.tail,GoodL c:=fun c hc=>hg c (List.mem_of_mem_tail hc);have hxt:xs.tail.length≤4000:=(by rw[List.length_tail];omega);unfold doubleM at h
  by_cases hn:next xs.tail=34
  · rw[if_pos hn]at h
    have h0:=quoted_lit (wi:=wi) (l:= []) (fun c hc=>by cases hc);obtain⟨h1,h2⟩:=doubleL_well hb ho _ _ _ _ _ hgt hxt (hw.lit h0) h;exact⟨h1,h2 (lit_ne _ _ _)⟩
  · rw[if_neg hn]at h
    obtain⟨ps',xs',h1,h2⟩:=within_some _ hn h;have hl:=(within_less ho h1 hn).1;obtain⟨h3,h4⟩:=within_well hb hgt hxt hw h1;obtain⟨h5,h6⟩:=doubleL_well hb ho _ _ _ _ _ (hl.1.good hgt) (by have:=hl.2;omega) h3 h2;exact⟨h5,h6 h4⟩
theorem part_well {k:Nat} {wi:Bool} {br:List Nat→Res Pt} (hb:BraceWell k br) (ho:BraceOk br) {xs ys:List Nat} {ps qs:List Pt} (hg:∀c∈xs,GoodL c) (hx:xs.length≤4000) (hn:next xs≠0) (he:ends (next xs) wi=false) (hw:Well k wi ps) (h:partM br wi xs ps= .ok (qs,ys)):Well k wi qs∧qs≠ []:=by
  unfold partM at h
  split at h
  · exact escaped_well hg hw h
  · split at h
    · exact single_well hg hw h
    · split at h
      · exact double_well hb ho hg hx hw h
      · split at h
        · exact dollar_well hb hg hx hw h
        · rename_i h1 h2 h3 h4
          cases h
          refine⟨hw.lit (bare_lit (got_all hg) ?_ (got_mem _ _)),lit_ne _ _ _⟩
          cases xs with
          |nil=>exact absurd rfl hn
          |cons c r=>
            simp only[next]at he h1 h2 h3 h4;have ha:(begins c||ends c wi)=false:=(by simp[begins,acts,h1,h2,h3,h4,he]);unfold got;rw[ha];simp
theorem partsL_well {k:Nat} {wi:Bool} {br:List Nat→Res Pt} (hb:BraceWell k br) (ho:BraceOk br):∀(f:Nat) (xs ys:List Nat) (ps qs:List Pt),(∀c∈xs,GoodL c)→xs.length≤4000→Well k wi ps→Fits xs ps→partsL br wi f xs ps= .ok (qs,ys)→Well k wi qs∧Fits ys qs∧(ps≠ []→qs≠ [])
  |0,_,_,_,_,_,_,_,_,h=>by cases h
  |f+1,xs,ys,ps,qs,hg,hx,hw,hf,h=>by
    rw[partsL]at h
    split at h
    · cases h;exact⟨hw,hf,id⟩
    · rename_i hc
      have hn:next xs≠0:=fun e=>hc (.inl e)
      have he:ends (next xs) wi=false:=by
        cases hh:ends (next xs) wi with
        |true=>exact absurd (.inr hh) hc
        |false=>rfl
      cases hq:partM br wi xs ps with
      |error e=>rw[hq]at h;cases h
      |ok a=>
        obtain⟨ps',xs'⟩:=a;rw[hq]at h;simp only at h;obtain⟨hl,hl2⟩:=part_less ho hq hn he;obtain⟨h1,h2⟩:=part_well hb ho hg hx hn he hw hq;obtain⟨h3,h4,h5⟩:=partsL_well hb ho f xs' ys ps' qs (hl.1.good hg) (by have:=hl.2;omega) h1 (hl2 hf) h;exact⟨h3,h4,fun _=>h5 h2⟩
theorem Well.row {k:Nat} {wi:Bool} {xs:List Nat} {ps:List Pt} (h:Well k wi ps) (hf:Fits xs ps) (hwi:wi=decide (k<20)):rowT (k+1) ps=true∧Small ps:=by
  refine⟨?_,.mk ps (fun q hq=> ?_) h.small⟩
  · rw[rowT,←hwi];exact h.side
  · have:=hf.2 q hq;omega
theorem parts_well:∀d,PartsWell (d+1) (partsM d)
  |0=>fun xs ps r hg hx h=>by
    have hb:BraceWell 0 (bracesM true fun _=> .error 0):=fun xs p r _ _ h=>(by unfold bracesM at h;simp at h);obtain⟨h1,h2,_⟩:=partsL_well hb (braces_ok (f:=fun _=> .error 0) (fun _ _ _ h=>by cases h) true) _ _ _ _ _ hg hx (Well.nil 0 true) (Fits.nil xs hx) h;exact h1.row h2 (by decide)
  |d+1=>fun xs ps r hg hx h=>by
    obtain⟨h1,h2,_⟩:=partsL_well (braces_well (parts_well d) false) (braces_ok (parts_ok d) false) _ _ _ _ _ hg hx (Well.nil (d+1) (decide (d<19))) (Fits.nil xs hx) h;exact h1.row h2 (decide_eq_decide.2 (by omega))
theorem begin_ends {xs:List Nat} (hx:xs≠ []) (hs:signM signs xs=none) (ha:next xs≠38) (h32:next xs≠32) (h9:next xs≠9):ends (next xs) false=false:=by
  have h1:∀c,[c]∈signs→next xs≠c:=fun c hc=>(sign_none signs xs c hs hc).resolve_right hx;have a1:=h1 59 (by decide);have a2:=h1 124 (by decide);have a3:=h1 40 (by decide);have a4:=h1 41 (by decide);have a5:=h1 62 (by decide);have a6:=h1 60 (by decide);have a7:=h1 10 (by decide);unfold ends blankR;simp only[Bool.false_eq_true,↓reduceIte,Bool.or_eq_false_iff,beq_eq_false_iff_ne,decide_eq_false_iff_not];omega
theorem token_word {n:Nat} {xs r:List Nat} {t:Tk} (hg:∀c∈xs,GoodL c) (hl:xs.length≤4000) (hx:xs≠ []) (h32:next xs≠32) (h9:next xs≠9) (h:tokenM n xs= .ok (t,r)):t.kind=1→wordT t.word=true∧Small t.word:=by
  unfold tokenM at h
  split at h
  · cases h;intro e;cases e
  · rename_i hs
    split at h
    · cases h
    · rename_i ha
      cases hp:partsM 20 xs with
      |error e=>rw[hp]at h;cases h
      |ok a=>
        obtain⟨ps,r'⟩:=a;rw[hp]at h
        cases h
        intro _;obtain⟨h1,h2⟩:=parts_well 20 xs ps _ hg hl hp;refine⟨?_,h2⟩;unfold wordT;rw[show rowT 21 ps=true from h1,Bool.and_true];have he:=begin_ends hx hs ha h32 h9;have hn:next xs≠0:=fun e=>hx ((next_zero hg).1 e);have hq:partsL (bracesM false (partsM 19)) false (xs.length+1) xs []= .ok (ps,r):=hp;rw[partsL,if_neg (by rw[he];simpa using hn)]at hq
        cases hw:partM (bracesM false (partsM 19)) false xs []with
        |error e=>rw[hw]at hq;cases hq
        |ok a=>
          obtain⟨ps',xs'⟩:=a;rw[hw]at hq;simp only at hq;have hb:=braces_well (parts_well 19) false;have ho:=braces_ok (parts_ok 19) false;obtain⟨hl1,hl2⟩:=part_less ho hw hn he;obtain⟨k1,k2⟩:=part_well hb ho hg hl hn he (Well.nil 20 false) hw;obtain⟨_,_,k3⟩:=partsL_well hb ho _ _ _ _ _ (hl1.1.good hg) (by have:=hl1.2;omega) k1 (hl2 (Fits.nil xs hl)) hq;have:=k3 k2
          cases ps with
          |nil=>exact absurd rfl this
          |cons _ _=>rfl
theorem skip_head (xs:List Nat) (hx:skipM xs≠ []):next (skipM xs)≠32∧next (skipM xs)≠9:=by
  unfold skipM at hx ⊢
  split
  · rename_i h
    rw[if_pos h]at hx
    rcases left_head (fun r=>r==10) (left (fun r=>r !=32&&r !=9) xs)with h1|h1
    · exact absurd h1 hx
    · have:next (left (fun r=>r==10) (left (fun r=>r !=32&&r !=9) xs))=10:=by simpa using h1
      rw[this];decide
  · rename_i h
    rw[if_neg h]at hx
    rcases left_head (fun r=>r !=32&&r !=9) xs with h1|h1
    · exact absurd h1 hx
    · simpa using h1
theorem tskip_suf (xs:List Nat):Suf xs (skipM xs):=by
  unfold skipM
  split
  · exact(Suf.left _ _).trans (Suf.left _ _)
  · exact Suf.left _ _
end Go.Proofs.YtakceggnadagmaaGreatDoor
namespace Go.Proofs.YtakceggnadagmaaGreatDoor
open Go Go.Lib GlyphMath LexMath TreeMath ParseMath
theorem parts20 {xs r:List Nat} {ps:List Pt} (hg:∀c∈xs,GoodL c) (hx:xs.length≤4000) (h:partsM 20 xs= .ok (ps,r)):ps.length≤4000:=by
  obtain⟨_,h2,_⟩:=partsL_well (braces_well (parts_well 19) false) (braces_ok (parts_ok 19) false) _ _ _ _ _ hg hx (Well.nil 20 (decide (19<19))) (Fits.nil xs hx) h;have:=h2.1;omega
theorem sign_mem:∀ {l:List (List Nat)} {xs p r:List Nat},signM l xs=some (p,r)→p∈l
  | [],_,_,_,h=>by cases h
  |q::l,xs,p,r,h=>by
    rw[signM]at h
    split at h
    · cases h;exact List.mem_cons_self ..
    · exact List.mem_cons_of_mem _ (sign_mem h)
theorem signs_B:∀p∈signs,ParseMath.signsB.contains (enc p)=true:=by decide+kernel
theorem token_mid {n:Nat} {xs r:List Nat} {t:Tk} (hn:n≤2000) (hg:∀c∈xs,GoodL c) (hl:xs.length≤4000) (hx:xs≠ []) (h32:next xs≠32) (h9:next xs≠9) (h:tokenM n xs= .ok (t,r)):MidT t:=by
  have hw:=token_word hg hl hx h32 h9 h;unfold tokenM at h
  split at h
  · rename_i p r' hs
    cases h
    exact⟨hn,.inr ⟨rfl,rfl,signs_B p (sign_mem hs)⟩⟩
  · split at h
    · cases h
    · cases hp:partsM 20 xs with
      |error e=>rw[hp]at h;cases h
      |ok a=>
        obtain⟨ps,r'⟩:=a;rw[hp]at h
        cases h
        exact⟨hn,.inl ⟨rfl,rfl,(hw rfl).1,(hw rfl).2,parts20 hg hl hp⟩⟩
theorem tokens_row {sz:Nat} (hsz:sz≤2000):∀(f:Nat) (xs:List Nat) (l ts:List Tk),(∀c∈xs,GoodL c)→xs.length≤2000→tokensL sz f xs l= .ok ts→∃r,ts=l++r∧Row r∧r.length≤xs.length+1
  |0,_,_,_,_,_,h=>by cases h
  |f+1,xs,l,ts,hg,hx,h=>by
    by_cases hk:skipM xs= []
    · rw[tokensL_end hk]at h
      cases h
      exact⟨_,rfl,.one _ ⟨rfl,rfl,rfl,hsz⟩,by simp⟩
    · cases ht:tokenM (sz-(enc (skipM xs)).length) (skipM xs)with
      |error e=>rw[tokensL_bad hk ht]at h;cases h
      |ok a=>
        obtain⟨t,r⟩:=a;rw[tokensL_go hk ht]at h;have hsu:=tskip_suf xs;obtain⟨h32,h9⟩:=skip_head xs hk;have hgs:=hsu.good hg;have hln:=hsu.len;have hm:=token_mid (by omega) hgs (by omega) hk h32 h9 ht;have hr:=token_less hgs hk h32 h9 ht;obtain⟨q,e,hq,hql⟩:=tokens_row hsz f r (l++ [t]) ts (hr.1.1.good hgs) (by have:=hr.1.2;omega) h;refine⟨t::q,by rw[e,List.append_assoc];rfl,.more t q hm hq,?_⟩;have:=hr.1.2;rw[List.length_cons];omega
theorem tokens_good {sz f:Nat} {xs:List Nat} {ts:List Tk} (hsz:sz≤2000) (hg:∀c∈xs,GoodL c) (hx:xs.length≤2000) (h:tokensL sz f xs []= .ok ts):GoodS ⟨ts,0,0⟩:=by
  obtain⟨r,e,hr,hl⟩:=tokens_row hsz f xs [] ts hg hx h;rw[List.nil_append]at e;subst e;exact⟨hr,by dsimp only;omega,Nat.zero_le _,Nat.zero_le _⟩
end Go.Proofs.YtakceggnadagmaaGreatDoor
