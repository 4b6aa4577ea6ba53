/-
  Proved: contracts of functions, plain facts. Conditions: as each says.
-/
import Derived.Test.YtakceggnadagmaaGreatDoorPq05
namespace Go.Proofs.YtakceggnadagmaaGreatDoor
open Go Go.RowKit GlyphMath LexMath TreeMath ParseMath
def ndC (o m:ByteArray) (wv pv av rv:Value):List Value:= [.string o,.string m,.slice none 0 0,wv,pv,av,rv]
def nkC (o m:ByteArray) (wv pv av rv kv:Value):List Value:= [.string o,.string m,.slice none 0 0,wv,pv,av,rv,kv]
theorem nkC_cel (o m:ByteArray) (p1 p2 p3 p4 p5:Option Addr) (n1 n2 n3 n4 n5 c1 c2 c3 c4 c5:Nat):Cel 8 (nkC o m (.slice p1 n1 c1) (.slice p2 n2 c2) (.slice p3 n3 c3) (.slice p4 n4 c4) (.slice p5 n5 c5)):=⟨rfl,fun v hv=>by
  simp only[nkC,List.mem_cons,List.not_mem_nil,or_false]at hv
  rcases hv with rfl|rfl|rfl|rfl|rfl|rfl|rfl|rfl<;>rfl⟩
theorem nd_info:(Tryz.prog.info? 44).map (·.size)=some 7:=by kernel_rfl
theorem built_nk (o m:ByteArray) (p1 p2 p3 p4 p5:Option Addr) (n1 n2 n3 n4 n5 c1 c2 c3 c4 c5:Nat):Tryz.prog.built 56 [(0,.agg (ndC o m (.slice p1 n1 c1) (.slice p2 n2 c2) (.slice p3 n3 c3) (.slice p4 n4 c4)).toArray),(1,.slice p5 n5 c5)]=some (nkC o m (.slice p1 n1 c1) (.slice p2 n2 c2) (.slice p3 n3 c3) (.slice p4 n4 c4) (.slice p5 n5 c5)).toArray:=by kernel_rfl
theorem built_n0 (o m:ByteArray) (p1 p2 p3 p4:Option Addr) (n1 n2 n3 n4 c1 c2 c3 c4:Nat):Tryz.prog.built 56 [(0,.agg (ndC o m (.slice p1 n1 c1) (.slice p2 n2 c2) (.slice p3 n3 c3) (.slice p4 n4 c4)).toArray)]=some (nkC o m (.slice p1 n1 c1) (.slice p2 n2 c2) (.slice p3 n3 c3) (.slice p4 n4 c4) (.slice none 0 0)).toArray:=by kernel_rfl
theorem wp_build2 {o:Oper} {a:Act} {w:World} {K:Act→World→Prop} {Q:Exit→Act→World→Prop} (t:TypeId) (i j:Nat) (x y:Operand) (ho:o.op= .build t #[(i,x),(j,y)]) (v u:Value) (cells:Array Value)
    (hx:a.eval x=v) (hy:a.eval y=u) (hf:Tryz.prog.built t [(i,v),(j,u)]=some cells) (h:K (a.put o.dst (.agg cells)) w):o.wp Tryz.prog a w K Q:=by
  have hv:(#[(i,x),(j,y)].map fun (i,x)=>(i,a.eval x)).toList= [(i,v),(j,u)]:=(by simp[hx,hy]);refine wp_build t _ ho (by rw[hv,hf];rfl) ?_;rw[hv,hf];exact h
theorem wpList_build1 {ops:Array Oper} {rest:List Oper} {o:Oper} {a:Act} {w:World} {Q:Exit→Act→World→Prop} (hg:o.guard=none) (t:TypeId) (i:Nat) (x:Operand) (ho:o.op= .build t #[(i,x)]) (v:Value) (cells:Array Value)
    (hx:a.eval x=v) (hf:Tryz.prog.built t [(i,v)]=some cells) (h:wpList Tryz.prog ops Q rest (a.put o.dst (.agg cells)) w):wpList Tryz.prog ops Q (o::rest) a w:=by
  have hv:(#[(i,x)].map fun (i,x)=>(i,a.eval x)).toList= [(i,v)]:=(by simp[hx]);refine wpList_build hg t _ ho (by rw[hv,hf];rfl) ?_;rw[hv,hf];exact h
structure BxO (w0 w wr:World) (X Y:Nat) (cs:Array Value) (t:TypeId) (S:PS):Prop where
  box:wr.heap[Y]? =some (.cells cs t (0,0))
  base:w.heap.size<Y
  pr:Pr w0 wr X S
  zero:wr.heap[w.heap.size]? =some ZN
  kept:Kept (fun k=>k=X) w wr
theorem BxO.lt {w0 w wr:World} {X Y:Nat} {cs:Array Value} {t:TypeId} {S:PS} (h:BxO w0 w wr X Y cs t S):Y<wr.heap.size:=(gS.1 h.box).1
theorem BxO.step {w0 w wr w1:World} {X Y:Nat} {cs:Array Value} {t:TypeId} {S S':PS} (h:BxO w0 w wr X Y cs t S) (hX:X<w.heap.size) (hs:PStep w0 wr w1 X S'):BxO w0 w w1 X Y cs t S':=
  ⟨hs.2.heap h.box (by have:=h.base;omega),h.base,hs.1,hs.2.heap h.zero (by omega),h.kept.on hs.2⟩
theorem BxO.new {w0 w wr w1:World} {X Y:Nat} {cs:Array Value} {t:TypeId} {S:PS} (h:BxO w0 w wr X Y cs t S) (hX:X<w.heap.size) (hb:Below wr.heap.size wr w1):BxO w0 w w1 X Y cs t S:=h.step hX ⟨h.pr.new hb,Kept.of_below hb⟩
theorem BxO.turn {D:Nat→Prop} {w0 w wr w1:World} {X Y:Nat} {cs:Array Value} {t:TypeId} {S:PS} (h:BxO w0 w wr X Y cs t S) (hX:X<w.heap.size) (hX0:w0.heap.size≤X) (hk:Kept D wr w1) (hD:∀k,D k→Y<k):BxO w0 w w1 X Y cs t S:=by
  have hb:=h.base;exact⟨hk.heap h.box (fun e=>by have:=hD _ e;omega),h.base,h.pr.kept hk (fun e=>by have:=hD _ e;omega) (fun k e=>by have:=hD _ e;omega),hk.heap h.zero (fun e=>by have:=hD _ e;omega),h.kept.trans hk fun i hi=> .inr (by have:=hD _ hi;omega)⟩
theorem BxO.set {w0 w wr:World} {X Y:Nat} {cs:Array Value} {t:TypeId} {S:PS} (h:BxO w0 w wr X Y cs t S) (hX:X<w.heap.size) (hX0:w0.heap.size≤X) (i:Nat) (u:Value):BxO w0 w (wr.setCell ⟨Y,i,none⟩ u) X Y (cs.setIfInBounds i u) t S:=by
  have hb:=h.base;have hk:Kept (fun k=>k=Y) wr (wr.setCell ⟨Y,i,none⟩ u):=(Kept.refl (fun k=>k=Y) wr).setCell (p:=⟨Y,i,none⟩) (.inl rfl) _;exact⟨heap_setCell_same wr Y i cs t u h.box,h.base,h.pr.kept hk (by omega) (fun k e=>by omega),hk.heap h.zero (by omega),h.kept.trans hk fun i hi=> .inr (by omega)⟩
theorem BxO.retR {w0 w w4:World} {X Y:Nat} {cs:Array Value} {t:TypeId} {S:PS} (h:BxO w0 w w4 X Y cs t S) (hX:X<w.heap.size) (hX0:w0.heap.size≤X) {c:List Value} {n:Tr} (hc:Cel 8 c) (h6:c[6]? =some (.slice none 0 0)) (hr:n.node.redirs= []) (ht:NewAt w0 w4 (w.heap.size+1) fun W=>TrC W c n):
    TrEndR w0 w (w4.setRow w.heap.size c.toArray) (.returned (.agg c.toArray)) X (n,S):=by
  have hk:=kept_row0 w4 w.heap.size c.toArray;exact⟨c,rfl,⟨hc,h6,hr⟩,(ht.kept hk (fun k h1 h2=>by omega)).base (by omega),h.pr.kept hk (by omega) (fun i hi=>by omega),h.kept.trans hk fun i hi=> .inr (by omega)⟩
set_option maxHeartbeats 4000000 in
set_option maxRecDepth 4000 in
theorem pfun_any {w0:World} {held:Do} {d:Nat} (hd:d≤100) (hc:CallDo w0 183 held (d+1)):CallDo w0 155 (funM held) d:=by
  intro w X S h;have HX:=yH h.base;have HNM:=yH (pname_any (h.new (below_new w ZN)));have HC:=yH hc;have HM:=yH (show funM held S=(.mk { nd0 with op:= [102,117,110],name:=S.name.1 } [(held ((S.name.2.need [40]).need [41]).lines).1],(held ((S.name.2.need [40]).need [41]).lines).2)from rfl);obtain⟨nm,hnm⟩:∃x,S.name.1=x:=⟨_,rfl⟩;obtain⟨S1,hS1⟩:∃x,S.name.2=x:=⟨_,rfl⟩;rw[hnm,hS1]at HM HNM;obtain⟨tn,htn⟩:∃x,T nm=x:=⟨_,rfl⟩;have HTN:=yH htn;rw[htn]at HNM;have hwr:=wrap1 hd;obtain⟨D,hD⟩:∃D:Int,(d:Int)=D:=⟨_,rfl⟩;rw[hD]at hwr ⊢;obtain⟨D1,hD1⟩:∃D:Int,((d+1:Nat):Int)=D:=⟨_,rfl⟩;have HD1:=yH hD1;rw[hD1]at hwr;clear h hc hnm hS1 htn hD hD1 hd;go_enter Tryz.func155,Tryz.ntmps155
  go_wp2_with (first
    |(go_at_call 76;refine(plines_any HA4.out.pr).mono ?_;rintro en w5 ⟨rfl,hs⟩;have HA5:=yH (HA4.out.step HX.out.2 hs);clear hs)
    |(go_at_call 182;refine(pneed_any HA3.out.pr [41]).mono ?_;rintro en w4 ⟨rfl,hs⟩;have HA4:=yH (HA3.out.step HX.out.2 hs);clear hs)
    |(go_at_call 182;have hA2:BxO w0 w (w1.alloc (.cells (ndC ⟨#[102,117,110]⟩ tn (.slice none 0 0) (.slice none 0 0) (.slice none 0 0) (.slice none 0 0)).toArray 44)) X w1.heap.size (ndC ⟨#[102,117,110]⟩ tn (.slice none 0 0) (.slice none 0 0) (.slice none 0 0) (.slice none 0 0)).toArray 44 S1:=⟨heap_alloc_new w1 _,(gS.1 HS1.out.2).1,HS1.out.1.1.new (below_new _ _),kept_alloc2 HS1.out.2 _,((Kept.of_below (below_new w ZN)).on HS1.out.1.2).on (Kept.of_below (below_new _ _))⟩;refine(pneed_any hA2.pr [40]).mono ?_;rintro en w3 ⟨rfl,hs⟩;have HA3:=yH (hA2.step HX.out.2 hs);clear hs hA2)
    |(go_at_call 181;refine HNM.out.mono ?_;rintro en w1 ⟨rfl,hs⟩;have HS1:=yH (And.intro hs (hs.2.heap (heap_alloc_new w ZN) (by have:=HX.out;omega)));clear hs))
  (try simp only[Act.put])
  refine regionL (S:=(fun W=>W.heap[w1.heap.size]? =some (.cells (ndC ⟨#[102,117,110]⟩ tn (.slice none 0 0) (.slice none 0 0) (.slice none 0 0) (.slice none 0 0)).toArray 44 (0,0)))) (L:=7) (by kernel_rfl) ?_ (fun hHeld=> ?_)
  · exact HA5.out.box
  refine takeL (i:=0) (k:=15) (v:= .agg (ndC ⟨#[102,117,110]⟩ tn (.slice none 0 0) (.slice none 0 0) (.slice none 0 0) (.slice none 0 0)).toArray) rfl (by kernel_rfl) (by kernel_rfl) (by kernel_rfl) (by kernel_rfl) (fun _ _ _ h=>h) (by kernel_rfl) (by kernel_rfl) (by kernel_rfl) (by rfl) ?_ (by assumption) ?_
  · intro w hSw;exact exec_load_row _ 44 (.tmp 5) rfl w1.heap.size rfl 44 (ndC ⟨#[102,117,110]⟩ tn (.slice none 0 0) (.slice none 0 0) (.slice none 0 0) (.slice none 0 0)).toArray (0,0) _ hSw Tryz.underlying44 rfl (by rw[nd_info];rfl)
  simp only[pS];refine tkL 1 16 rfl rfl ?_ ?_ ?_;rotate_left
  · intro _ _;go_simp<;>(with_reducible rfl)
  simp only[pS];refine tkL 2 17 rfl rfl ?_ ?_ ?_;rotate_left
  · intro _ _;go_simp<;>(with_reducible rfl)
  simp only[pS];refine tkL 3 18 rfl rfl ?_ ?_ ?_;rotate_left
  · intro _ _;go_simp<;>(with_reducible rfl)
  simp only[pS];refine nxL 4 rfl (fun K hK=> ?_);go_simp
  go_wp2_with (go_at_call 183;rw[←HD1.out];refine(HC.out _ X _ (HA5.out.new HX.out.2 (below_drewA w5)).pr).mono ?_;rintro en w7 ⟨c7,rfl,hcel,hnew,hs⟩;rw[HD1.out];have HA7:=yH ((HA5.out.new HX.out.2 (below_drewA w5)).step HX.out.2 hs);have HS7:=yH (And.intro hcel (And.intro hnew hs.2.size));clear hcel hnew hs)
  refine hK.out _ _ ?_ ?_
  · exact .inr HA7.out.box
  clear hK K;refine nxL 5 rfl (fun K hK=> ?_);refine wp_one elNode (.tmp 19) rfl _ c7 rfl HS7.out.1 rfl ?_;refine hK.out _ _ ?_ ?_
  · exact .inr (HA7.out.new HX.out.2 (below_new w7 _)).box
  clear hK K;simp only[Act.put,List.getElem_toArray,List.getElem_cons_succ,List.getElem_cons_zero,pS];refine nxL 6 rfl (fun K hK=> ?_);refine wp_build2 56 0 1 (.tmp 15) (.tmp 20) rfl (.agg (ndC ⟨#[102,117,110]⟩ tn (.slice none 0 0) (.slice none 0 0) (.slice none 0 0) (.slice none 0 0)).toArray) (.slice (some ⟨w7.heap.size,0,none⟩) 1 1) (nkC ⟨#[102,117,110]⟩ tn (.slice none 0 0) (.slice none 0 0) (.slice none 0 0) (.slice none 0 0) (.slice (some ⟨w7.heap.size,0,none⟩) 1 1)).toArray rfl rfl (built_nk _ _ _ _ _ _ _ _ _ _ _ _ _ _ _ _ _) ?_;refine hK.out _ _ ?_ ?_
  · exact .inr (HA7.out.new HX.out.2 (below_new w7 _)).box
  clear hK K;simp only[Act.put,List.getElem_toArray,List.getElem_cons_succ,List.getElem_cons_zero,pS];refine nxL 7 rfl (fun K hK=> ?_);refine wp_store_row 56 (.tmp 4) (.tmp 21) rfl w.heap.size (nkC ⟨#[102,117,110]⟩ tn (.slice none 0 0) (.slice none 0 0) (.slice none 0 0) (.slice none 0 0) (.slice (some ⟨w7.heap.size,0,none⟩) 1 1)).toArray rfl rfl 56 zeroN.toArray (HA7.out.new HX.out.2 (below_new w7 _)).zero (by rw[node_info];rfl) rfl (all_oneCell_toArray (nkC_cel _ _ _ _ _ _ _ _ _ _ _ _ _ _ _ _ _).2) ?_;refine hK.out _ _ ?_ ?_
  · exact .inl (by kernel_rfl)
  clear hK K;simp only[Act.put,List.getElem_toArray,List.getElem_cons_succ,List.getElem_cons_zero];refine doneL (by kernel_rfl) ?_ _;go_wp2_with fail
  (try simp only[Exit.inBlock,Exit.then])
  refine bodyPost_ret (ret_tree rfl (setRow_heap (w7.alloc (.cells c7.toArray 56)) w.heap.size zeroN.toArray _ 56 (0,0) (HA7.out.new HX.out.2 (below_new w7 _)).zero) (nkC_cel _ _ _ _ _ _ _ _ _ _ _ _ _ _ _ _ _) rfl) rfl ?_;rw[HM.out];obtain⟨F,hr, -⟩:=RowG.one (w0:=w0) (w:=w7) (e:=56) (B:=w.heap.size+1) HS7.out.1 HS7.out.2.1 (by have:=HA5.out.lt;have:=HA5.out.base;exact Nat.le_trans this (Nat.le_of_lt HA5.out.lt)) (by have:=HA7.out.lt;have:=HA7.out.base;omega);have ht:=Kids.tree hr (n:= { nd0 with op:= [102,117,110],name:=nm }) (cs:=ndC ⟨#[102,117,110]⟩ tn (.slice none 0 0) (.slice none 0 0) (.slice none 0 0) (.slice none 0 0)) (by simp[maxLen]) (NewAt.of0 fun W _=>⟨rfl,_,_,_,_,by rw[←HTN.out];rfl,SlAt.nil _ _ _ _,SlAt.nil _ _ _ _,SlAt.nil _ _ _ _,SlAt.nil _ _ _ _⟩);exact((HA7.out.new HX.out.2 (below_new w7 _)).retR HX.out.2 HX.out.1 (nkC_cel _ _ _ _ _ _ _ _ _ _ _ _ _ _ _ _ _) rfl rfl ht).plain
structure EaO (w0 w wr:World) (X Y:Nat) (tn:ByteArray) (p:Option Addr) (c:Nat) (css:List (List Value)) (l:List (List Pt)) (F:Nat→Prop) (S:PS):Prop where
  box:BxO w0 w wr X Y (ndC ⟨#[102,111,114]⟩ tn (.slice p l.length c) (.slice none 0 0) (.slice none 0 0) (.slice none 0 0)).toArray 44 S
  row:WRow w0 wr (Y+1) (.slice p l.length c) css l F
  few:l.length+S.ts.length≤4002
theorem EaO.step {w0 w wr w1:World} {X Y:Nat} {tn:ByteArray} {p:Option Addr} {c:Nat} {css:List (List Value)} {l:List (List Pt)} {F:Nat→Prop} {S S':PS} (h:EaO w0 w wr X Y tn p c css l F S) (hX:X<w.heap.size) (hs:PStep w0 wr w1 X S') (hl:S'.ts.length≤S.ts.length):EaO w0 w w1 X Y tn p c css l F S':=
  ⟨h.box.step hX hs,h.row.kept hs.2 (fun k hk=>by have:=(h.row.lt k hk).1;have:=h.box.base;omega),by have:=h.few;omega⟩
theorem EaO.new {w0 w wr w1:World} {X Y:Nat} {tn:ByteArray} {p:Option Addr} {c:Nat} {css:List (List Value)} {l:List (List Pt)} {F:Nat→Prop} {S:PS} (h:EaO w0 w wr X Y tn p c css l F S) (hX:X<w.heap.size) (hb:Below wr.heap.size wr w1):EaO w0 w w1 X Y tn p c css l F S:=h.step hX ⟨h.box.pr.new hb,Kept.of_below hb⟩ (Nat.le_refl _)
theorem wordsL_go {f:Nat} {l:List (List Pt)} {S:PS} (h:S.isWord=true):wordsL (f+1) l S=wordsL f (l++ [S.word.1]) S.word.2:=by rw[wordsL,if_pos h]
theorem wordsL_end {f:Nat} {l:List (List Pt)} {S:PS} (h:S.isWord=false):wordsL (f+1) l S=(l,S):=by rw[wordsL,if_neg (by rw[h];decide)]
set_option maxHeartbeats 8000000 in
set_option maxRecDepth 4000 in
theorem peach_any {w0:World} {cmd:Do} {d:Nat} (hbd:CallDo w0 195 (bodyM cmd) d):CallDoR w0 187 (eachM cmd) d:=by
  intro w X S h;have HX:=yH h.base;have HT:=yH (ptake_any (h.new (below_new w ZN)));have HGT:=yH (to_take h.good);have HBD:=yH hbd;have HM:=yH (show eachM cmd S=(.mk { nd0 with op:= [102,111,114],name:=S.take.name.1,words:=(wordsL (S.take.name.2.need [105,110]).ts.length [] (S.take.name.2.need [105,110])).1 } [(bodyM cmd (wordsL (S.take.name.2.need [105,110]).ts.length [] (S.take.name.2.need [105,110])).2.sep.2).1],(bodyM cmd (wordsL (S.take.name.2.need [105,110]).ts.length [] (S.take.name.2.need [105,110])).2.sep.2).2)from rfl);have HNM:=yH (fun W (hW:Pr w0 W X S.take)=>pname_any hW);obtain⟨nm,hnm⟩:∃x,S.take.name.1=x:=⟨_,rfl⟩;obtain⟨S1,hS1⟩:∃x,S.take.name.2=x:=⟨_,rfl⟩;rw[hnm,hS1]at HM HNM;obtain⟨tn,htn⟩:∃x,T nm=x:=⟨_,rfl⟩;have HTN:=yH htn;rw[htn]at HNM;obtain⟨S2,hS2⟩:∃x,S1.need [105,110]=x:=⟨_,rfl⟩;have HS2:=yH hS2;rw[hS2]at HM;obtain⟨q,hq⟩:∃q,wordsL S2.ts.length [] S2=q:=⟨_,rfl⟩;rw[hq]at HM;have HQ:=yH hq;obtain⟨D,hD⟩:∃D:Int,(d:Int)=D:=⟨_,rfl⟩;have HD:=yH hD;rw[hD];clear h hbd hnm hS1 htn hS2 hq hD;go_enter Tryz.func187,Tryz.ntmps187
  go_wp2_with (first
    |(go_at_call 182;have hA2:EaO w0 w (w2.alloc (.cells (ndC ⟨#[102,111,114]⟩ tn (.slice none 0 0) (.slice none 0 0) (.slice none 0 0) (.slice none 0 0)).toArray 44)) X w2.heap.size tn none 0 [] [] (fun _=>False) S1:=⟨⟨heap_alloc_new w2 _,(gS.1 HS2b.out.2).1,HS2b.out.1.1.new (below_new _ _),kept_alloc2 HS2b.out.2 _,(((Kept.of_below (below_new w ZN)).on HS1.out.1.2).on HS2b.out.1.2).on (Kept.of_below (below_new _ _))⟩,RowG.nil _ _ _ _ _ _,by have:=HS2b.out.1.1.good.few;simp;omega⟩;refine(pneed_any hA2.box.pr [105,110]).mono ?_;rintro en w3 ⟨rfl,hs⟩;have HA3:=yH (hA2.step HX.out.2 hs (to_need HS2b.out.1.1.good _).len);rw[HS2.out]at HA3;clear hs hA2)
    |(go_at_call 181;refine(HNM.out w1 HS1.out.1.1).mono ?_;rintro en w2 ⟨rfl,hs⟩;have HS2b:=yH (And.intro hs (hs.2.heap HS1.out.2 (by have:=HX.out;omega)));clear hs)
    |(go_at_call 105;refine HT.out.mono ?_;rintro en w1 ⟨p,k1,rfl, -,hs⟩;have HS1:=yH (And.intro hs (hs.2.heap (heap_alloc_new w ZN) (by have:=HX.out;omega)));clear hs))
  go_loopw [] (fun wr=> ∃f p c css l F S',EaO w0 w wr X w2.heap.size tn p c css l F S'∧wordsL f l S'=q∧S'.ts.length≤f) (fun wr=>psLen wr X)
  case atStart=>exact⟨_,_,_,_,_,_,_,HA3.out,HQ.out,Nat.le_refl _⟩
  case round=>
    obtain⟨f,p,c,css,l,F,S',hL,hm,hf⟩:=hrel;have hpos:=hL.box.pr.good.pos;obtain⟨f,rfl⟩:∃g,f=g+1:=⟨f-1,by omega⟩;have HIW:=yH (pisWord_any hL.box.pr);have HS:=yH (And.intro hL (And.intro hm hf));clear hL hm hf hpos;obtain⟨Y,hY⟩:∃Y,w2.heap.size=Y:=⟨_,rfl⟩;rw[hY]at HS ⊢;obtain⟨n,hn⟩:∃n,l.length=n:=⟨_,rfl⟩;have HN:=yH hn;have HY:=yH hY;clear hn hY
    cases hi:S'.isWord with
    |true=>
      rw[hi]at HIW;have HI:=yH hi;clear hi;obtain⟨y,hy⟩:∃y,S'.word.1=y:=⟨_,rfl⟩;have HYW:=yH hy;have HW2:=yH (fun W (hW:Pr w0 W X S')=>pword_any hW);rw[hy]at HW2;obtain⟨yl,hyl⟩:∃n,y.length=n:=⟨_,rfl⟩;rw[hyl]at HW2;clear hy hyl
      go_wp2_with (go_at_call 189;refine HIW.out.mono ?_;rintro en w3 ⟨rfl,hb⟩;have HL3:=yH (HS.out.1.new HX.out.2 hb);clear hb)
      refine regionL (S:=(fun W=>W.cell? ⟨Y,3,none⟩=some (.slice p n c))) (L:=7) (by kernel_rfl) ?_ (fun hHeld=> ?_)
      · exact(by rw[cell_plain (HL3.out.new HX.out.2 (below_drewA w3)).box.box,←HN.out];rfl)
      refine tkL 0 15 rfl rfl ?_ ?_ ?_;rotate_left
      · intro _ _;go_simp<;>(with_reducible rfl)
      simp only[pS];refine tkL 1 16 rfl rfl ?_ ?_ ?_;rotate_left
      · intro _ _;go_simp<;>(with_reducible rfl)
      simp only[pS];refine tkL 2 17 rfl rfl ?_ ?_ ?_;rotate_left
      · intro _ _;go_simp<;>(with_reducible rfl)
      simp only[pS];refine nxL 3 rfl (fun K hK=> ?_);go_simp
      go_wp2_with (go_at_call 191;refine(HW2.out _ (HL3.out.new HX.out.2 (below_drewA w3)).box.pr).mono ?_;rintro en w5 ⟨p5,k5,rfl,hu,hs⟩;have HS5:=yH (And.intro hu ((HL3.out.new HX.out.2 (below_drewA w3)).step HX.out.2 hs (to_word HL3.out.box.pr.good).len));clear hs hu)
      refine hK.out _ _ ?_ ?_
      · exact .inr (by rw[cell_plain HS5.out.2.box.box,←HN.out];rfl)
      clear hK K;refine nxL 4 rfl (fun K hK=> ?_);refine wp_one elWord (.tmp 18) rfl _ [.slice p5 yl k5] rfl (slice_cel _ _ _) rfl ?_;refine hK.out _ _ ?_ ?_
      · exact .inr (by rw[cell_plain (HS5.out.2.new HX.out.2 (below_new w5 _)).box.box,←HN.out];rfl)
      clear hK K;simp only[Act.put,List.getElem_toArray,List.getElem_cons_succ,List.getElem_cons_zero,pS];refine nxL 5 rfl (fun K hK=> ?_);refine wp_push elWord (.tmp 16) (.tmp 19) rfl HS5.out.2.row (slice_cel _ _ _) (word_new (C:=w5.heap.size) HS5.out.1) (by have:=HS5.out.2.box.lt;omega) (fun k hk=>(HS5.out.2.row.lt k (.inr hk)).2) (by have:=HS5.out.2.few;omega) (by rw[HN.out];rfl) rfl (by have:=HS5.out.2.box.lt;omega) ?_;intro p6 c6 F6 w6 hr6 _ _ hk6;have hb6:=HS5.out.2.box.turn HX.out.2 HX.out.1 hk6 (fun k hk=>(HS5.out.2.row.lt k (.inr hk)).1);have HS6:=yH (And.intro hr6 hb6);clear hr6 hk6 hb6;refine hK.out _ _ ?_ ?_
      · exact .inr (by rw[cell_plain HS6.out.2.box,←HN.out];rfl)
      clear hK K;simp only[Act.put,List.getElem_toArray,List.getElem_cons_succ,List.getElem_cons_zero,pS];refine takeL (i:=6) (k:=21) (v:= ?_) rfl (by kernel_rfl) (by kernel_rfl) (by kernel_rfl) (by kernel_rfl) (fun _ _ _ h=>h) (by kernel_rfl) (by kernel_rfl) (by kernel_rfl) (by rfl) ?_ (by rw[cell_plain HS6.out.2.box,←HN.out];rfl) ?_;rotate_left
      · intro _ _;go_simp<;>(with_reducible rfl)
      simp only[pS];refine nxL 7 rfl (fun K hK=> ?_);have d3:w6.cell? ⟨Y,3,none⟩=some (.slice p n c):=(by rw[cell_plain HS6.out.2.box,←HN.out];rfl);have e3:w6.frozen? ⟨Y,3,none⟩=false:=frozen_plain HS6.out.2.box 3;go_simp;refine hK.out _ _ ?_ ?_
      · exact .inl (by kernel_rfl)
      clear hK K;refine doneL (by kernel_rfl) ?_ _;have hA:=HS6.out.2.set HX.out.2 HX.out.1 3 (.slice p6 (l.length+1) c6);have hr:=HS6.out.1.kept (D:=fun k=>k=Y) ((Kept.refl (fun k=>k=Y) w6).setCell (p:=⟨Y,3,none⟩) (.inl rfl) (.slice p6 (l.length+1) c6)) (fun k hk=>by have:=(HS6.out.1.lt k hk).1;omega);have hn1:(l++ [y]).length=l.length+1:=(by rw[List.length_append];rfl);have hlt:=word_lt HS.out.1.box.pr.good HI.out;have hE:EaO w0 w (w6.setCell ⟨Y,3,none⟩ (.slice p6 (l.length+1) c6)) X Y tn p6 c6 (css++ [[.slice p5 yl k5]]) (l++ [y]) F6 S'.word.2:=⟨by rw[hn1];exact hA,by rw[hn1];exact hr,by rw[hn1];have:=HS.out.1.few;omega⟩;have HE:=yH hE;clear hA hr hE;go_wp2_with fail
      go_roundw
      case rel=>exact⟨f,p6,c6,_,_,F6,_,HE.out,by rw[←HYW.out,←wordsL_go HI.out];exact HS.out.2.1,by have:=HS.out.2.2;omega⟩
      case measure=>rw[HE.out.box.pr.len,HS.out.1.box.pr.len];exact hlt
    |false=>
      rw[hi]at HIW;have HE:=yH (show eachM cmd S=(.mk { nd0 with op:= [102,111,114],name:=nm,words:=l } [(bodyM cmd S'.sep.2).1],(bodyM cmd S'.sep.2).2)from by rw[HM.out,←HS.out.2.1,wordsL_end hi]);clear hi
      go_wp2_with (first
        |(go_at_call 189;refine HIW.out.mono ?_;rintro en w3 ⟨rfl,hb⟩;have HL3:=yH (HS.out.1.new HX.out.2 hb);clear hb)
        |(go_at_call 78;refine(psep_any HL3.out.box.pr).mono ?_;rintro en w4 ⟨rfl,hs⟩;have HL4:=yH (HL3.out.step HX.out.2 hs (to_sep HL3.out.box.pr.good).len);clear hs))
      refine regionL (S:=(fun W=>W.heap[Y]? =some (.cells (ndC ⟨#[102,111,114]⟩ tn (.slice p n c) (.slice none 0 0) (.slice none 0 0) (.slice none 0 0)).toArray 44 (0,0)))) (L:=6) (by kernel_rfl) ?_ (fun hHeld=> ?_)
      · exact(by rw[←HN.out];exact(HL4.out.new HX.out.2 (below_drewA w4)).box.box)
      refine takeL (i:=0) (k:=24) (v:= .agg (ndC ⟨#[102,111,114]⟩ tn (.slice p n c) (.slice none 0 0) (.slice none 0 0) (.slice none 0 0)).toArray) rfl (by kernel_rfl) (by kernel_rfl) (by kernel_rfl) (by kernel_rfl) (fun _ _ _ h=>h) (by kernel_rfl) (by kernel_rfl) (by kernel_rfl) (by rfl) ?_ (by assumption) ?_
      · intro w hSw;exact exec_load_row _ 44 (.tmp 5) rfl Y rfl 44 (ndC ⟨#[102,111,114]⟩ tn (.slice p n c) (.slice none 0 0) (.slice none 0 0) (.slice none 0 0)).toArray (0,0) _ hSw Tryz.underlying44 rfl (by rw[nd_info];rfl)
      simp only[pS];refine tkL 1 25 rfl rfl ?_ ?_ ?_;rotate_left
      · intro _ _;go_simp<;>(with_reducible rfl)
      simp only[pS];refine tkL 2 26 rfl rfl ?_ ?_ ?_;rotate_left
      · intro _ _;go_simp<;>(with_reducible rfl)
      simp only[pS];refine nxL 3 rfl (fun K hK=> ?_);go_simp
      go_wp2_with (go_at_call 195;rw[←HD.out];refine(HBD.out _ X _ (HL4.out.new HX.out.2 (below_drewA w4)).box.pr).mono ?_;rintro en w7 ⟨c7,rfl,hcel,hnew,hs⟩;rw[HD.out];have HA7:=yH (And.intro ((HL4.out.new HX.out.2 (below_drewA w4)).box.step HX.out.2 hs) (HL4.out.row.kept (((Kept.of_below (below_drewA w4))).on hs.2) (fun k hk=>by have:=(HL4.out.row.lt k hk).1;have:=HL4.out.box.base;have:=HX.out;omega)));have HS7:=yH (And.intro hcel (And.intro hnew hs.2.size));clear hcel hnew hs)
      refine hK.out _ _ ?_ ?_
      · exact .inr (by rw[←HN.out];exact HA7.out.1.box)
      clear hK K;refine nxL 4 rfl (fun K hK=> ?_);refine wp_one elNode (.tmp 27) rfl _ c7 rfl HS7.out.1 rfl ?_;refine hK.out _ _ ?_ ?_
      · exact .inr (by rw[←HN.out];exact(HA7.out.1.new HX.out.2 (below_new w7 _)).box)
      clear hK K;simp only[Act.put,List.getElem_toArray,List.getElem_cons_succ,List.getElem_cons_zero,pS];refine nxL 5 rfl (fun K hK=> ?_);refine wp_build2 56 0 1 (.tmp 24) (.tmp 28) rfl (.agg (ndC ⟨#[102,111,114]⟩ tn (.slice p n c) (.slice none 0 0) (.slice none 0 0) (.slice none 0 0)).toArray) (.slice (some ⟨w7.heap.size,0,none⟩) 1 1) (nkC ⟨#[102,111,114]⟩ tn (.slice p n c) (.slice none 0 0) (.slice none 0 0) (.slice none 0 0) (.slice (some ⟨w7.heap.size,0,none⟩) 1 1)).toArray rfl rfl (built_nk _ _ _ _ _ _ _ _ _ _ _ _ _ _ _ _ _) ?_;refine hK.out _ _ ?_ ?_
      · exact .inr (by rw[←HN.out];exact(HA7.out.1.new HX.out.2 (below_new w7 _)).box)
      clear hK K;simp only[Act.put,List.getElem_toArray,List.getElem_cons_succ,List.getElem_cons_zero,pS];refine nxL 6 rfl (fun K hK=> ?_);refine wp_store_row 56 (.tmp 4) (.tmp 29) rfl w.heap.size (nkC ⟨#[102,111,114]⟩ tn (.slice p n c) (.slice none 0 0) (.slice none 0 0) (.slice none 0 0) (.slice (some ⟨w7.heap.size,0,none⟩) 1 1)).toArray rfl rfl 56 zeroN.toArray (HA7.out.1.new HX.out.2 (below_new w7 _)).zero (by rw[node_info];rfl) rfl (all_oneCell_toArray (nkC_cel _ _ _ _ _ _ _ _ _ _ _ _ _ _ _ _ _).2) ?_;refine hK.out _ _ ?_ ?_
      · exact .inl (by kernel_rfl)
      clear hK K;simp only[Act.put,List.getElem_toArray,List.getElem_cons_succ,List.getElem_cons_zero];refine doneL (by kernel_rfl) ?_ _;go_wp2_with fail
      (try simp only[Exit.inBlock,Exit.then])
      refine bodyPost_ret (ret_tree rfl (setRow_heap (w7.alloc (.cells c7.toArray 56)) w.heap.size zeroN.toArray _ 56 (0,0) (HA7.out.1.new HX.out.2 (below_new w7 _)).zero) (nkC_cel _ _ _ _ _ _ _ _ _ _ _ _ _ _ _ _ _) rfl) rfl ?_;rw[HE.out];have hYb:=HL4.out.box.base;have hY4:=HL4.out.box.lt;have hY7:=HA7.out.1.lt;have hs7:=HS7.out.2.2;obtain⟨F1,hr, -⟩:=RowG.one (w0:=w0) (w:=w7) (e:=56) (B:=w.heap.size+1) HS7.out.1 HS7.out.2.1 (by show w.heap.size+1≤w4.heap.size;omega) (by omega);have hws:=(HA7.out.2.sl (by have:=HL4.out.few;unfold maxLen;omega)).kept (D:=fun _=>False) (Kept.of_below (below_new w7 (.cells c7.toArray 56))) (fun _ _ _ h=>h);have ht:=Kids.tree hr (n:= { nd0 with op:= [102,111,114],name:=nm,words:=l }) (cs:=(ndC ⟨#[102,111,114]⟩ tn (.slice p n c) (.slice none 0 0) (.slice none 0 0) (.slice none 0 0))) (by simp[maxLen]) ((hws.base (by omega)).imp fun W hW=>⟨rfl,_,_,_,_,by rw[←HTN.out];rfl,by rw[←HN.out];exact hW,SlAt.nil _ _ _ _,SlAt.nil _ _ _ _,SlAt.nil _ _ _ _⟩);exact(HA7.out.1.new HX.out.2 (below_new w7 _)).retR HX.out.2 HX.out.1 (nkC_cel _ _ _ _ _ _ _ _ _ _ _ _ _ _ _ _ _) rfl rfl ht
theorem ap_push {a a' b:Value} {Fb:Nat→Prop} {n:Nat} (hab:∀k,(Fb k∨b.ownBlock=some k)→a.ownBlock≠some k) (hb:∀k,(Fb k∨b.ownBlock=some k)→k<n) (hat:a'.ownBlock=a.ownBlock∨∀k,a'.ownBlock=some k→n≤k):∀k,(Fb k∨b.ownBlock=some k)→a'.ownBlock≠some k:=fun k hk e=>by
  rcases hat with h|h
  · exact hab k hk (h▸e)
  · have:=h k e;have:=hb k hk;omega
theorem ap_pushed {a a' b:Value} {Fa Fa':Nat→Prop} {C n:Nat} (hba:∀k,(Fa k∨a.ownBlock=some k)→b.ownBlock≠some k) (hF:∀k,Fa' k→Fa k∨(C≤k∧k<n)) (hb:∀k,b.ownBlock=some k→k<C∧k<n) (hat:a'.ownBlock=a.ownBlock∨∀k,a'.ownBlock=some k→n≤k):∀k,(Fa' k∨a'.ownBlock=some k)→b.ownBlock≠some k:=fun k hk e=>by
  rcases hk with hk|hk
  · rcases hF k hk with h|h
    · exact hba k (.inl h) e
    · have:=hb k e;omega
  · rcases hat with h|h
    · exact hba k (.inr (h▸hk)) e
    · have:=h k hk;have:=hb k e;omega
abbrev PRow (w0 w:World) (B:Nat) (v:Value) (css:List (List Value)) (l:List (List (List Pt))) (F:Nat→Prop):Prop:=RowG w0 w 39 1 WordsP B v css l F
structure CaO (w0 w wr:World) (X Y:Nat) (pw:Option Addr) (cw:Nat) (x:List Pt) (Fw:Nat→Prop) (pp:Option Addr) (cp:Nat) (cssp:List (List Value)) (ps:List (List (List Pt))) (Fp:Nat→Prop) (pk:Option Addr) (ck:Nat) (cssk:List (List Value)) (l:List Tr) (Fk:Nat→Prop) (S:PS):Prop where
  box:BxO w0 w wr X Y (nkC ⟨#[99,97,115,101]⟩ ⟨#[]⟩ (.slice pw 1 cw) (.slice pp ps.length cp) (.slice none 0 0) (.slice none 0 0) (.slice pk l.length ck)).toArray 56 S
  words:Stays w0 wr Fw fun W=>WsAt W (.slice pw 1 cw) [x]
  farw:∀k,Fw k→w.heap.size<k∧k<Y
  pats:PRow w0 wr (Y+1) (.slice pp ps.length cp) cssp ps Fp
  kids:Kids w0 wr (Y+1) (.slice pk l.length ck) cssk l Fk
  ap1:∀k,(Fk k∨(Value.slice pk l.length ck).ownBlock=some k)→(Value.slice pp ps.length cp).ownBlock≠some k
  ap2:∀k,(Fp k∨(Value.slice pp ps.length cp).ownBlock=some k)→(Value.slice pk l.length ck).ownBlock≠some k
  few1:ps.length+S.ts.length≤4002
  few2:l.length+S.ts.length≤4002
section
variable {w0 w wr w1 : World} {X Y : Nat} {pw : Option Addr} {cw : Nat} {x : List Pt} {Fw : Nat → Prop} {pp : Option Addr} {cp : Nat} {cssp : List (List Value)} {ps : List (List (List Pt))} {Fp : Nat → Prop} {pk : Option Addr} {ck : Nat} {cssk : List (List Value)} {l : List Tr} {Fk : Nat → Prop} {S S' : PS}
theorem CaO.step (h:CaO w0 w wr X Y pw cw x Fw pp cp cssp ps Fp pk ck cssk l Fk S) (hX:X<w.heap.size) (hs:PStep w0 wr w1 X S') (hl:S'.ts.length≤S.ts.length):CaO w0 w w1 X Y pw cw x Fw pp cp cssp ps Fp pk ck cssk l Fk S':=by
  have hb:=h.box.base;have hlt:=h.box.lt;exact⟨h.box.step hX hs,h.words.same fun k hk=>hs.2.block k (by have:=(h.farw k hk).2;omega) (by have:=(h.farw k hk).1;omega),h.farw,h.pats.kept hs.2 (fun k hk=>by have:=(h.pats.lt k hk).1;omega),h.kids.kept hs.2 (fun k hk=>by have:=(h.kids.lt k hk).1;omega),h.ap1,h.ap2,by have:=h.few1;omega,by have:=h.few2;omega⟩
theorem CaO.new (h:CaO w0 w wr X Y pw cw x Fw pp cp cssp ps Fp pk ck cssk l Fk S) (hX:X<w.heap.size) (hb:Below wr.heap.size wr w1):CaO w0 w w1 X Y pw cw x Fw pp cp cssp ps Fp pk ck cssk l Fk S:=h.step hX ⟨h.box.pr.new hb,Kept.of_below hb⟩ (Nat.le_refl _)
theorem CaO.tree (h:CaO w0 w wr X Y pw cw x Fw pp cp cssp ps Fp pk ck cssk l Fk S):NewAt w0 wr (w.heap.size+1) fun W=>TrC W (nkC ⟨#[99,97,115,101]⟩ ⟨#[]⟩ (.slice pw 1 cw) (.slice pp ps.length cp) (.slice none 0 0) (.slice none 0 0) (.slice pk l.length ck)) (.mk { nd0 with op:= [99,97,115,101],words:= [x],pats:=ps } l):=by
  have hb:=h.box.base;have hlt:=h.box.lt;have h1:NewAt w0 wr (w.heap.size+1) fun W=>WsAt W (.slice pw 1 cw) [x]:=⟨Fw,fun k hk=>⟨(h.farw k hk).1,by have:=(h.farw k hk).2;omega⟩,h.words⟩;have h2:=(h.pats.sl (by have:=h.few1;unfold maxLen;omega)).base (C:=w.heap.size+1) (by omega);have h3:=(h1.and h2).imp (Q:=fun W=>NdC W { nd0 with op:= [99,97,115,101],words:= [x],pats:=ps } (ndC ⟨#[99,97,115,101]⟩ ⟨#[]⟩ (.slice pw 1 cw) (.slice pp ps.length cp) (.slice none 0 0) (.slice none 0 0))) fun W hW=>⟨rfl,_,_,_,_,rfl,hW.1,hW.2,SlAt.nil _ _ _ _,SlAt.nil _ _ _ _⟩;obtain⟨F3,f1,f2⟩:=h3;have h4:=h.kids.stays (by have:=h.few2;unfold maxLen;omega) f2;exact⟨_,fun k hk=>hk.elim (f1 k) fun hk=>⟨by have:=(h.kids.lt k hk).1;omega,(h.kids.lt k hk).2⟩,h4⟩
theorem CaO.pushP {C:Nat} {pp':Option Addr} {cp':Nat} {cs:List Value} {y:List (List Pt)} {Fp':Nat→Prop} (h:CaO w0 w wr X Y pw cw x Fw pp cp cssp ps Fp pk ck cssk l Fk S) (hX:X<w.heap.size) (hX0:w0.heap.size≤X) (hC:∀k,(Value.slice pk l.length ck).ownBlock=some k→k<C)
    (hr:PRow w0 w1 (Y+1) (.slice pp' (ps.length+1) cp') (cssp++ [cs]) (ps++ [y]) Fp') (hF:∀k,Fp' k→Fp k∨(C≤k∧k<wr.heap.size)) (hat:(Value.slice pp' (ps.length+1) cp').ownBlock=(Value.slice pp ps.length cp).ownBlock∨∀k,(Value.slice pp' (ps.length+1) cp').ownBlock=some k→wr.heap.size≤k)
    (hk:Kept (fun k=>(Value.slice pp ps.length cp).ownBlock=some k) wr w1) (hf:ps.length+1+S.ts.length≤4002):
    CaO w0 w (w1.setCell ⟨Y,4,none⟩ (.slice pp' (ps.length+1) cp')) X Y pw cw x Fw pp' cp' (cssp++ [cs]) (ps++ [y]) Fp' pk ck cssk l Fk S:=by
  have hb:=h.box.base;have hlt:=h.box.lt;have hn:(ps++ [y]).length=ps.length+1:=(by rw[List.length_append];rfl);have hown:∀k,(Value.slice pp ps.length cp).ownBlock=some k→Y<k:=fun k hk=>(h.pats.lt k (.inr hk)).1;have hk2:Kept (fun k=>k=Y) w1 (w1.setCell ⟨Y,4,none⟩ (.slice pp' (ps.length+1) cp')):=(Kept.refl (fun k=>k=Y) w1).setCell (p:=⟨Y,4,none⟩) (.inl rfl) _;have hw1:wr.heap.size≤w1.heap.size:=hk.size;refine⟨?_,?_,h.farw,?_,?_,?_,?_,by rw[hn];exact hf,h.few2⟩
  · have:=(h.box.turn hX hX0 hk (fun k hk=>hown k hk)).set hX hX0 4 (.slice pp' (ps.length+1) cp')
    rw[hn];exact this
  · exact(h.words.same fun k hk'=>hk.block k (by have:=(h.farw k hk').2;omega) (fun e=>by have:=hown k e;have:=(h.farw k hk').2;omega)).same fun k hk'=>hk2.block k (by have:=(h.farw k hk').2;omega) (by have:=(h.farw k hk').2;omega)
  · rw[hn]
    exact hr.kept hk2 fun k hk'=>by have:=(hr.lt k hk').1;omega
  · exact(h.kids.kept hk fun k hk'=>h.ap1 k hk').kept hk2 fun k hk'=>by have:=(h.kids.lt k hk').1;omega
  · rw[hn]
    exact ap_push h.ap1 (fun k hk'=>(h.kids.lt k hk').2) hat
  · rw[hn]
    exact ap_pushed h.ap2 hF (fun k hk'=>⟨hC k hk',(h.kids.lt k (.inr hk')).2⟩) hat
theorem CaO.pushK {C:Nat} {pk':Option Addr} {ck':Nat} {cs:List Value} {y:Tr} {Fk':Nat→Prop} (h:CaO w0 w wr X Y pw cw x Fw pp cp cssp ps Fp pk ck cssk l Fk S) (hX:X<w.heap.size) (hX0:w0.heap.size≤X) (hC:∀k,(Value.slice pp ps.length cp).ownBlock=some k→k<C)
    (hr:Kids w0 w1 (Y+1) (.slice pk' (l.length+1) ck') (cssk++ [cs]) (l++ [y]) Fk') (hF:∀k,Fk' k→Fk k∨(C≤k∧k<wr.heap.size)) (hat:(Value.slice pk' (l.length+1) ck').ownBlock=(Value.slice pk l.length ck).ownBlock∨∀k,(Value.slice pk' (l.length+1) ck').ownBlock=some k→wr.heap.size≤k)
    (hk:Kept (fun k=>(Value.slice pk l.length ck).ownBlock=some k) wr w1) (hf:l.length+1+S.ts.length≤4002):
    CaO w0 w (w1.setCell ⟨Y,7,none⟩ (.slice pk' (l.length+1) ck')) X Y pw cw x Fw pp cp cssp ps Fp pk' ck' (cssk++ [cs]) (l++ [y]) Fk' S:=by
  have hb:=h.box.base;have hlt:=h.box.lt;have hn:(l++ [y]).length=l.length+1:=(by rw[List.length_append];rfl);have hown:∀k,(Value.slice pk l.length ck).ownBlock=some k→Y<k:=fun k hk=>(h.kids.lt k (.inr hk)).1;have hk2:Kept (fun k=>k=Y) w1 (w1.setCell ⟨Y,7,none⟩ (.slice pk' (l.length+1) ck')):=(Kept.refl (fun k=>k=Y) w1).setCell (p:=⟨Y,7,none⟩) (.inl rfl) _;have hw1:wr.heap.size≤w1.heap.size:=hk.size;refine⟨?_,?_,h.farw,?_,?_,?_,?_,h.few1,by rw[hn];exact hf⟩
  · have:=(h.box.turn hX hX0 hk (fun k hk=>hown k hk)).set hX hX0 7 (.slice pk' (l.length+1) ck')
    rw[hn];exact this
  · exact(h.words.same fun k hk'=>hk.block k (by have:=(h.farw k hk').2;omega) (fun e=>by have:=hown k e;have:=(h.farw k hk').2;omega)).same fun k hk'=>hk2.block k (by have:=(h.farw k hk').2;omega) (by have:=(h.farw k hk').2;omega)
  · exact(h.pats.kept hk fun k hk'=>h.ap2 k hk').kept hk2 fun k hk'=>by have:=(h.pats.lt k hk').1;omega
  · rw[hn]
    exact hr.kept hk2 fun k hk'=>by have:=(hr.lt k hk').1;omega
  · rw[hn]
    exact ap_pushed h.ap1 hF (fun k hk'=>⟨hC k hk',(h.pats.lt k (.inr hk')).2⟩) hat
  · rw[hn]
    exact ap_push h.ap2 (fun k hk'=>(h.pats.lt k hk').2) hat
end
theorem case_made {w0 w w1 w2:World} {X:Nat} {S0 S1:PS} {x:List Pt} (hX:X<w.heap.size) (hs1:PStep w0 (w.alloc ZN) w1 X S0) (hz1:w1.heap[w.heap.size]? =some ZN) (hs2:PStep w0 w1 w2 X S1) {p2:Option Addr} {xl k2:Nat} (hu:PsAt w0 (.slice p2 xl k2) x):
    ∃Fw,CaO w0 w ((w2.alloc (.cells #[.slice p2 xl k2] 70)).alloc (.cells (nkC ⟨#[99,97,115,101]⟩ ⟨#[]⟩ (.slice (some ⟨w2.heap.size,0,none⟩) 1 1) (.slice none 0 0) (.slice none 0 0) (.slice none 0 0) (.slice none 0 0)).toArray 56)) X (w2.heap.size+1) (some ⟨w2.heap.size,0,none⟩) 1 x Fw none 0 [] [] (fun _=>False) none 0 [] [] (fun _=>False) S1:=by
  have hl1:=(gS.1 hz1).1;have hz2:=hs2.2.heap hz1 (by omega);have hsz:=hs2.2.size;have hfew:=hs2.1.good.few;obtain⟨F,hr,hF⟩:=RowG.one (w0:=w0) (w:=w2) (e:=70) (B:=w.heap.size+1) (C:=w2.heap.size) (slice_cel p2 xl k2) (word_new hu) (by omega) (by omega);have hs3:=hr.sl (by simp[maxLen]);obtain⟨Fw,f1,f2⟩:=hs3;have hw3:(w2.alloc (.cells #[.slice p2 xl k2] 70)).heap.size=w2.heap.size+1:=(by simp);refine⟨Fw,⟨⟨by rw[←hw3];exact heap_alloc_new _ _,by omega,(hs2.1.new (below_new _ _)).new (below_new _ _),kept_alloc2 (kept_alloc2 hz2 _) _,((((Kept.of_below (below_new w ZN)).on hs1.2).on hs2.2).on (Kept.of_below (below_new _ _))).on (Kept.of_below (below_new _ _))⟩,(f2.same fun k hk=>Below.heap_alloc _ _ _ (f1 k hk).2),fun k hk=>⟨(f1 k hk).1,by have:=(f1 k hk).2;rw[List.toArray]at*;omega⟩,RowG.nil _ _ _ _ _ _,RowG.nil _ _ _ _ _ _,fun k hk=>hk.elim (fun h=>h.elim) (fun e=>by simp[Value.ownBlock]at e),fun k hk=>hk.elim (fun h=>h.elim) (fun e=>by simp[Value.ownBlock]at e),by simp;omega,by simp;omega⟩⟩
theorem choiceL_end {cmd:Do} {f:Nat} {ps:List (List (List Pt))} {l:List Tr} {S:PS} (h:S.is [101,115,97,99]=true∨S.hd.kind=3):choiceL cmd (f+1) ps l S=⟨ps,l,S⟩:=by
  rw[choiceL,if_pos]
  rcases h with h|h
  · rw[h];rfl
  · rw[h];simp
theorem choiceL_go {cmd:Do} {f:Nat} {ps:List (List (List Pt))} {l:List Tr} {S:PS} (h1:S.is [101,115,97,99]=false) (h2:S.hd.kind≠3):choiceL cmd (f+1) ps l S=choiceL cmd f (ps++ [(patsM S).1]) (l++ [(listM cmd (patsM S).2).1]) ((listM cmd (patsM S).2).2.need [59,59]).lines:=by
  rw[choiceL,if_neg];rw[h1]
  simpa using h2
set_option maxHeartbeats 16000000 in
set_option maxRecDepth 4000 in
theorem pchoice_any {w0:World} {cmd:Do} {d:Nat} (hd:d≤100) (hok:DoOk cmd) (hc:CallDo w0 44 (listM cmd) (d+1)):CallDoR w0 188 (choiceM cmd) d:=by
  intro w X S h;have HX:=yH h.base;have HT:=yH (ptake_any (h.new (below_new w ZN)));have HC:=yH hc;have HOK:=yH hok;have HM:=yH (show choiceM cmd S=(.mk { nd0 with op:= [99,97,115,101],words:= [S.take.word.1],pats:=(choiceL cmd (S.take.word.2.need [105,110]).lines.ts.length [] [] (S.take.word.2.need [105,110]).lines).pats } (choiceL cmd (S.take.word.2.need [105,110]).lines.ts.length [] [] (S.take.word.2.need [105,110]).lines).kids,(choiceL cmd (S.take.word.2.need [105,110]).lines.ts.length [] [] (S.take.word.2.need [105,110]).lines).st.need [101,115,97,99])from rfl);have HW:=yH (fun W (hW:Pr w0 W X S.take)=>pword_any hW);obtain⟨x,hx⟩:∃x,S.take.word.1=x:=⟨_,rfl⟩;obtain⟨S1,hS1⟩:∃x,S.take.word.2=x:=⟨_,rfl⟩;rw[hx,hS1]at HM HW;obtain⟨xl,hxl⟩:∃n,x.length=n:=⟨_,rfl⟩;rw[hxl]at HW;obtain⟨q,hq⟩:∃q,choiceL cmd (S1.need [105,110]).lines.ts.length [] [] (S1.need [105,110]).lines=q:=⟨_,rfl⟩;rw[hq]at HM;have HQ:=yH hq;have hwr:=wrap1 hd;obtain⟨D,hD⟩:∃D:Int,(d:Int)=D:=⟨_,rfl⟩;rw[hD]at hwr ⊢;obtain⟨D1,hD1⟩:∃D:Int,((d+1:Nat):Int)=D:=⟨_,rfl⟩;have HD1:=yH hD1;rw[hD1]at hwr;clear h hc hok hx hS1 hxl hq hD hD1 hd;go_enter Tryz.func188,Tryz.ntmps188
  go_wp2_with (first
    |(go_at_call 76;refine(plines_any HA4.out.box.pr).mono ?_;rintro en w5 ⟨rfl,hs⟩;have HA5:=yH (HA4.out.step HX.out.2 hs (to_lines HA4.out.box.pr.good).len);clear hs)
    |(go_at_call 182;obtain⟨Fw,hA3⟩:=case_made HX.out.2 HS1.out.1 HS1.out.2 HS2.out.1 HS2.out.2;refine(pneed_any hA3.box.pr [105,110]).mono ?_;rintro en w4 ⟨rfl,hs⟩;have HA4:=yH (hA3.step HX.out.2 hs (to_need hA3.box.pr.good _).len);clear hs hA3)
    |(go_at_call 191;refine(HW.out w1 HS1.out.1.1).mono ?_;rintro en w2 ⟨p2,k2,rfl,hu,hs⟩;have HS2:=yH (And.intro hs hu);clear hs hu)
    |(go_at_call 105;refine HT.out.mono ?_;rintro en w1 ⟨p,k1,rfl, -,hs⟩;have HS1:=yH (And.intro hs (hs.2.heap (heap_alloc_new w ZN) (by have:=HX.out;omega)));clear hs))
  obtain⟨Y,hY⟩:∃Y,w2.heap.size+1=Y:=⟨_,rfl⟩;have HA:=yH (show ∃pw cw pp cp cssp ps Fp pk ck cssk l Fk,CaO w0 w w5 X Y pw cw x Fw pp cp cssp ps Fp pk ck cssk l Fk (S1.need [105,110]).lines∧ps= []∧l= []from by rw[←hY];exact⟨_,_,_,_,_,_,_,_,_,_,_,_,HA5.out,rfl,rfl⟩);have HYE:=yH hY;clear hY
  go_loopw [] (fun wr=> ∃f pw cw pp cp cssp ps Fp pk ck cssk l Fk S',CaO w0 w wr X (w2.heap.size+1) pw cw x Fw pp cp cssp ps Fp pk ck cssk l Fk S'∧choiceL cmd f ps l S'=q∧S'.ts.length≤f) (fun wr=>psLen wr X)
  case atStart=>exact⟨_,_,_,_,_,_,_,_,_,_,_,_,_,_,HA5.out,HQ.out,Nat.le_refl _⟩
  case round=>
    obtain⟨f,pw,cw,pp,cp,cssp,ps,Fp,pk,ck,cssk,l,Fk,S',hL,hm,hf⟩:=hrel;have hpos:=hL.box.pr.good.pos;obtain⟨f,rfl⟩:∃g,f=g+1:=⟨f-1,by omega⟩;rw[HYE.out]at hL ⊢;have HIS:=yH (pis_any hL.box.pr [101,115,97,99]);have HNX:=yH (fun W (hW:Pr w0 W X S')=>pnext_any hW);have HS:=yH (And.intro hL (And.intro hm hf));clear hL hm hf hpos;obtain⟨t,ht⟩:∃t,S'.hd=t:=⟨_,rfl⟩;have HHD:=yH ht;rw[ht]at HNX;unfold tkV at HNX;obtain⟨kd,hkd⟩:∃x,t.kind=x:=⟨_,rfl⟩;have HKD:=yH hkd;obtain⟨tx,htx⟩:∃x,T t.text=x:=⟨_,rfl⟩;obtain⟨wl,hwl⟩:∃x,t.word.length=x:=⟨_,rfl⟩;obtain⟨at_,hat⟩:∃x:Int,(t.at_:Int)=x:=⟨_,rfl⟩;simp only[hkd,htx,hwl,hat]at HNX;clear ht hkd htx hwl hat;obtain⟨n,hn⟩:∃n,ps.length=n:=⟨_,rfl⟩;have HN:=yH hn;obtain⟨m,hm⟩:∃n,l.length=n:=⟨_,rfl⟩;have HMM:=yH hm;clear hn hm
    cases hi:S'.is [101,115,97,99]with
    |true=>
      rw[hi]at HIS;have HE:=yH (show choiceM cmd S=(.mk { nd0 with op:= [99,97,115,101],words:= [x],pats:=ps } l,S'.need [101,115,97,99])from by rw[HM.out,←HS.out.2.1,choiceL_end (.inl hi)]);clear hi
      go_wp2_with (first
          |(go_at_call 182;refine(pneed_any HL3.out.box.pr [101,115,97,99]).mono ?_;rintro en w7 ⟨rfl,hs⟩;have HL7:=yH (HL3.out.step HX.out.2 hs (to_need HL3.out.box.pr.good _).len);have HBX:=yH HL7.out.box;rw[HN.out,HMM.out]at HBX;clear hs)
          |(go_at_call 129;refine HIS.out.mono ?_;rintro en w3 ⟨rfl,hb⟩;have HL3:=yH (HS.out.1.new HX.out.2 hb);clear hb)
          |(refine wpList_load_row (by rfl) 56 (.tmp 5) (by rfl) Y (by rfl) 56 (nkC ⟨#[99,97,115,101]⟩ ⟨#[]⟩ (.slice pw 1 cw) (.slice pp n cp) (.slice none 0 0) (.slice none 0 0) (.slice pk m ck)).toArray (0,0) _ HBX.out.box Tryz.underlying56 rfl (by rw[node_info];rfl) ?_)
          |(refine wpList_store_row (by rfl) 56 (.tmp 4) (.tmp 50) (by rfl) w.heap.size (nkC ⟨#[99,97,115,101]⟩ ⟨#[]⟩ (.slice pw 1 cw) (.slice pp n cp) (.slice none 0 0) (.slice none 0 0) (.slice pk m ck)).toArray (by rfl) (by rfl) 56 zeroN.toArray HBX.out.zero (by rw[node_info];rfl) rfl (all_oneCell_toArray (nkC_cel _ _ _ _ _ _ _ _ _ _ _ _ _ _ _ _ _).2) ?_))
      (try simp only[Exit.inBlock,Exit.then])
      refine bodyPost_ret (ret_tree rfl (setRow_heap w7 w.heap.size zeroN.toArray _ 56 (0,0) HBX.out.zero) (nkC_cel _ _ _ _ _ _ _ _ _ _ _ _ _ _ _ _ _) rfl) rfl ?_;rw[HE.out];have ht:=HL7.out.tree;rw[HN.out,HMM.out]at ht;exact HBX.out.retR HX.out.2 HX.out.1 (nkC_cel _ _ _ _ _ _ _ _ _ _ _ _ _ _ _ _ _) rfl rfl ht
    |false=>
      rw[hi]at HIS
      by_cases hk:kd=3
      · subst hk
        have HE:=yH (show choiceM cmd S=(.mk { nd0 with op:= [99,97,115,101],words:= [x],pats:=ps } l,S'.need [101,115,97,99])from by rw[HM.out,←HS.out.2.1,choiceL_end (.inr (by rw[HHD.out,HKD.out]))]);clear hi
        go_wp2_with (first
            |(go_at_call 182;refine(pneed_any HL3.out.box.pr [101,115,97,99]).mono ?_;rintro en w7 ⟨rfl,hs⟩;have HL7:=yH (HL3.out.step HX.out.2 hs (to_need HL3.out.box.pr.good _).len);have HBX:=yH HL7.out.box;rw[HN.out,HMM.out]at HBX;clear hs)
            |(go_at_call 129;refine HIS.out.mono ?_;rintro en w2b ⟨rfl,hb⟩;have HL2:=yH (HS.out.1.new HX.out.2 hb);clear hb)
            |(go_at_call 45;refine(HNX.out _ HL2.out.box.pr).mono ?_;rintro en w3 ⟨p,k,rfl, -,hb⟩;have qf:=tok_f0 3 at_ tx p wl k;have HL3:=yH (HL2.out.new HX.out.2 hb);clear hb)
            |(refine wpList_load_row (by rfl) 56 (.tmp 5) (by rfl) Y (by rfl) 56 (nkC ⟨#[99,97,115,101]⟩ ⟨#[]⟩ (.slice pw 1 cw) (.slice pp n cp) (.slice none 0 0) (.slice none 0 0) (.slice pk m ck)).toArray (0,0) _ HBX.out.box Tryz.underlying56 rfl (by rw[node_info];rfl) ?_)
            |(refine wpList_store_row (by rfl) 56 (.tmp 4) (.tmp 50) (by rfl) w.heap.size (nkC ⟨#[99,97,115,101]⟩ ⟨#[]⟩ (.slice pw 1 cw) (.slice pp n cp) (.slice none 0 0) (.slice none 0 0) (.slice pk m ck)).toArray (by rfl) (by rfl) 56 zeroN.toArray HBX.out.zero (by rw[node_info];rfl) rfl (all_oneCell_toArray (nkC_cel _ _ _ _ _ _ _ _ _ _ _ _ _ _ _ _ _).2) ?_))
        (try simp only[Exit.inBlock,Exit.then])
        refine bodyPost_ret (ret_tree rfl (setRow_heap w7 w.heap.size zeroN.toArray _ 56 (0,0) HBX.out.zero) (nkC_cel _ _ _ _ _ _ _ _ _ _ _ _ _ _ _ _ _) rfl) rfl ?_;rw[HE.out];have ht:=HL7.out.tree;rw[HN.out,HMM.out]at ht;exact HBX.out.retR HX.out.2 HX.out.1 (nkC_cel _ _ _ _ _ _ _ _ _ _ _ _ _ _ _ _ _) rfl rfl ht
      · have hkb:(kd !=3)=true:=by simpa using hk
        have HI:=yH (And.intro hi (show S'.hd.kind≠3 from by rw[HHD.out,HKD.out];exact hk));clear hi hk;have HPT:=yH (fun W (hW:Pr w0 W X S')=>ppats_any hW);have HGP:=yH (to_pats HS.out.1.box.pr.good);have HLT:=yH (choice_lt HOK.out HS.out.1.box.pr.good HI.out.2);have HLP:=yH (pats_lt HS.out.1.box.pr.good HI.out.2);have HGL:=yH (to_list HOK.out _ HGP.out.good);obtain⟨y,hy⟩:∃y,(patsM S').1=y:=⟨_,rfl⟩;obtain⟨S2,hS2⟩:∃y,(patsM S').2=y:=⟨_,rfl⟩;have HPY:=yH (show patsM S'=(y,S2)from by rw[←hy,←hS2]);rw[hS2]at HGP HLP HGL HLT;rw[hy,hS2]at HPT;clear hy hS2
        go_wp2_with (first
          |(go_at_call 129;refine HIS.out.mono ?_;rintro en w2b ⟨rfl,hb⟩;have HL2:=yH (HS.out.1.new HX.out.2 hb);clear hb)
          |(go_at_call 45;refine(HNX.out _ HL2.out.box.pr).mono ?_;rintro en w3 ⟨p,k,rfl, -,hb⟩;have qf:=tok_f0 kd at_ tx p wl k;have HL3:=yH (HL2.out.new HX.out.2 hb);clear hb))
        refine regionL (S:=(fun W=>W.cell? ⟨Y,4,none⟩=some (.slice pp n cp))) (L:=9) (by kernel_rfl) ?_ (fun hHeld=> ?_)
        · exact(by rw[cell_plain (HL3.out.new HX.out.2 (below_drewA w3)).box.box,←HN.out];rfl)
        refine tkL 0 26 rfl rfl ?_ ?_ ?_;rotate_left
        · intro _ _;go_simp<;>(with_reducible rfl)
        simp only[pS];refine tkL 1 27 rfl rfl ?_ ?_ ?_;rotate_left
        · intro _ _;go_simp<;>(with_reducible rfl)
        simp only[pS];refine tkL 2 28 rfl rfl ?_ ?_ ?_;rotate_left
        · intro _ _;go_simp<;>(with_reducible rfl)
        simp only[pS];refine tkL 3 29 rfl rfl ?_ ?_ ?_;rotate_left
        · intro _ _;go_simp<;>(with_reducible rfl)
        simp only[pS];refine nxL 4 rfl (fun K hK=> ?_);go_simp
        go_wp2_with (go_at_call 196;refine(HPT.out _ (HL3.out.new HX.out.2 (below_drewA w3)).box.pr).mono ?_;rintro en w6 ⟨p6,n6,k6,rfl,hnew,hs⟩;have HS6:=yH (And.intro hnew (And.intro ((HL3.out.new HX.out.2 (below_drewA w3)).step HX.out.2 hs (Nat.le_of_lt HLP.out)) hs.2.size));clear hs hnew)
        refine hK.out _ _ ?_ ?_
        · exact .inr (by rw[cell_plain HS6.out.2.1.box.box,←HN.out];rfl)
        clear hK K;refine nxL 5 rfl (fun K hK=> ?_);refine wp_one elWords (.tmp 30) rfl _ [.slice p6 n6 k6] rfl (slice_cel _ _ _) rfl ?_;refine hK.out _ _ ?_ ?_
        · exact .inr (by rw[cell_plain (HS6.out.2.1.new HX.out.2 (below_new w6 _)).box.box,←HN.out];rfl)
        clear hK K;simp only[Act.put,List.getElem_toArray,List.getElem_cons_succ,List.getElem_cons_zero,pS];refine nxL 6 rfl (fun K hK=> ?_);refine wp_push elWords (.tmp 28) (.tmp 31) rfl HS6.out.2.1.pats (slice_cel _ _ _) (HS6.out.1.imp fun W hW=>⟨_,rfl,hW⟩) HL3.out.box.lt (fun k hk=>(HL3.out.pats.lt k (.inr hk)).2) (by have:=HS6.out.2.1.few1;omega) (by rw[HN.out];rfl) rfl HS6.out.2.1.box.lt ?_;intro p8 c8 F8 w8 hr8 hF8 hat8 hk8;have HS8:=yH (And.intro hr8 (And.intro hF8 (And.intro hat8 hk8)));have HB8:=yH (HS6.out.2.1.box.turn HX.out.2 HX.out.1 hk8 (fun k hk=>(HS6.out.2.1.pats.lt k (.inr hk)).1));clear hr8 hF8 hat8 hk8;refine hK.out _ _ ?_ ?_
        · exact .inr (by rw[cell_plain HB8.out.box,←HN.out];rfl)
        clear hK K;simp only[Act.put,List.getElem_toArray,List.getElem_cons_succ,List.getElem_cons_zero,pS];refine nxL 7 rfl (fun K hK=> ?_);go_simp;refine hK.out _ _ ?_ ?_
        · exact .inr (by rw[cell_plain HB8.out.box,←HN.out];rfl)
        clear hK K;refine takeL (i:=8) (k:=34) (v:= ?_) rfl (by kernel_rfl) (by kernel_rfl) (by kernel_rfl) (by kernel_rfl) (fun _ _ _ h=>h) (by kernel_rfl) (by kernel_rfl) (by kernel_rfl) (by rfl) ?_ (by rw[cell_plain HB8.out.box,←HN.out];rfl) ?_;rotate_left
        · intro _ _;go_simp<;>(with_reducible rfl)
        simp only[pS];refine nxL 9 rfl (fun K hK=> ?_);have d3:w8.cell? ⟨Y,4,none⟩=some (.slice pp n cp):=(by rw[cell_plain HB8.out.box,←HN.out];rfl);have e3:w8.frozen? ⟨Y,4,none⟩=false:=frozen_plain HB8.out.box 4;go_simp;refine hK.out _ _ ?_ ?_
        · exact .inl (by kernel_rfl)
        clear hK K;refine doneL (by kernel_rfl) ?_ _;have HL9:=yH (HS6.out.2.1.pushP HX.out.2 HX.out.1 (fun k hk=>(HL3.out.kids.lt k (.inr hk)).2) HS8.out.1 HS8.out.2.1 HS8.out.2.2.1 HS8.out.2.2.2 (by have:=HS.out.1.few1;have:=HLP.out;omega));obtain⟨w9,hw9⟩:∃w9,w9=w8.setCell ⟨Y,4,none⟩ (.slice p8 (ps.length+1) c8):=⟨_,rfl⟩;rw[←hw9]at HL9 ⊢;clear hw9;go_wp2_with fail;refine regionL (S:=(fun W=>W.cell? ⟨Y,7,none⟩=some (.slice pk m ck))) (L:=9) (by kernel_rfl) ?_ (fun hHeld=> ?_)
        · exact(by rw[cell_plain (HL9.out.new HX.out.2 (below_drewA w9)).box.box,←HMM.out];rfl)
        refine tkL 0 35 rfl rfl ?_ ?_ ?_;rotate_left
        · intro _ _;go_simp<;>(with_reducible rfl)
        simp only[pS];refine tkL 1 36 rfl rfl ?_ ?_ ?_;rotate_left
        · intro _ _;go_simp<;>(with_reducible rfl)
        simp only[pS];refine tkL 2 37 rfl rfl ?_ ?_ ?_;rotate_left
        · intro _ _;go_simp<;>(with_reducible rfl)
        simp only[pS];refine tkL 3 38 rfl rfl ?_ ?_ ?_;rotate_left
        · intro _ _;go_simp<;>(with_reducible rfl)
        simp only[pS];refine tkL 4 39 rfl rfl ?_ ?_ ?_;rotate_left
        · intro _ _;go_simp<;>(with_reducible rfl)
        simp only[pS];refine nxL 5 rfl (fun K hK=> ?_);go_simp
        go_wp2_with (go_at_call 44;rw[←HD1.out];refine(HC.out _ X S2 (HL9.out.new HX.out.2 (below_drewA w9)).box.pr).mono ?_;rintro en w10 ⟨c10,rfl,hcel,hnew,hs⟩;rw[HD1.out];have HS10:=yH (And.intro hcel (And.intro hnew (And.intro ((HL9.out.new HX.out.2 (below_drewA w9)).step HX.out.2 hs HGL.out.len) hs.2.size)));clear hcel hnew hs)
        refine hK.out _ _ ?_ ?_
        · exact .inr (by rw[cell_plain HS10.out.2.2.1.box.box,←HMM.out];rfl)
        clear hK K;refine nxL 6 rfl (fun K hK=> ?_);refine wp_one elNode (.tmp 40) rfl _ c10 rfl HS10.out.1 rfl ?_;refine hK.out _ _ ?_ ?_
        · exact .inr (by rw[cell_plain (HS10.out.2.2.1.new HX.out.2 (below_new w10 _)).box.box,←HMM.out];rfl)
        clear hK K;simp only[Act.put,List.getElem_toArray,List.getElem_cons_succ,List.getElem_cons_zero,pS];refine nxL 7 rfl (fun K hK=> ?_);refine wp_push elNode (.tmp 36) (.tmp 41) rfl HS10.out.2.2.1.kids HS10.out.1 HS10.out.2.1 HL9.out.box.lt (fun k hk=>(HL9.out.kids.lt k (.inr hk)).2) (by have:=HS10.out.2.2.1.few2;omega) (by rw[HMM.out];rfl) rfl HS10.out.2.2.1.box.lt ?_;intro p11 c11 F11 w11 hr11 hF11 hat11 hk11;have HS11:=yH (And.intro hr11 (And.intro hF11 (And.intro hat11 hk11)));have HB11:=yH (HS10.out.2.2.1.box.turn HX.out.2 HX.out.1 hk11 (fun k hk=>(HS10.out.2.2.1.kids.lt k (.inr hk)).1));clear hr11 hF11 hat11 hk11;refine hK.out _ _ ?_ ?_
        · exact .inr (by rw[cell_plain HB11.out.box,←HMM.out];rfl)
        clear hK K;simp only[Act.put,List.getElem_toArray,List.getElem_cons_succ,List.getElem_cons_zero,pS];refine takeL (i:=8) (k:=43) (v:= ?_) rfl (by kernel_rfl) (by kernel_rfl) (by kernel_rfl) (by kernel_rfl) (fun _ _ _ h=>h) (by kernel_rfl) (by kernel_rfl) (by kernel_rfl) (by rfl) ?_ (by rw[cell_plain HB11.out.box,←HMM.out];rfl) ?_;rotate_left
        · intro _ _;go_simp<;>(with_reducible rfl)
        simp only[pS];refine nxL 9 rfl (fun K hK=> ?_);have d3:w11.cell? ⟨Y,7,none⟩=some (.slice pk m ck):=(by rw[cell_plain HB11.out.box,←HMM.out];rfl);have e3:w11.frozen? ⟨Y,7,none⟩=false:=frozen_plain HB11.out.box 7;go_simp;refine hK.out _ _ ?_ ?_
        · exact .inl (by kernel_rfl)
        clear hK K;refine doneL (by kernel_rfl) ?_ _;have HL12:=yH (HS10.out.2.2.1.pushK HX.out.2 HX.out.1 (fun k hk=>(HL9.out.pats.lt k (.inr hk)).2) HS11.out.1 HS11.out.2.1 HS11.out.2.2.1 HS11.out.2.2.2 (by have:=HS.out.1.few2;have:=HLP.out;have:=HGL.out.len;omega));obtain⟨w12,hw12⟩:∃w12,w12=w11.setCell ⟨Y,7,none⟩ (.slice p11 (l.length+1) c11):=⟨_,rfl⟩;rw[←hw12]at HL12 ⊢;clear hw12
        go_wp2_with (first
          |(go_at_call 182;refine(pneed_any HL12.out.box.pr [59,59]).mono ?_;rintro en w13 ⟨rfl,hs⟩;have HL13:=yH (HL12.out.step HX.out.2 hs (to_need HL12.out.box.pr.good _).len);clear hs)
          |(go_at_call 76;refine(plines_any HL13.out.box.pr).mono ?_;rintro en w14 ⟨rfl,hs⟩;have HL14:=yH (HL13.out.step HX.out.2 hs (to_lines HL13.out.box.pr.good).len);clear hs))
        go_roundw
        case rel=>exact⟨f,_,_,_,_,_,_,_,_,_,_,_,_,_,HL14.out,by rw[←HS.out.2.1,choiceL_go HI.out.1 HI.out.2,HPY.out],by have:=HS.out.2.2;have h9:=HLT.out;omega⟩
        case measure=>have h9:=HLT.out;rw[HL14.out.box.pr.len,HS.out.1.box.pr.len];exact h9
end Go.Proofs.YtakceggnadagmaaGreatDoor
