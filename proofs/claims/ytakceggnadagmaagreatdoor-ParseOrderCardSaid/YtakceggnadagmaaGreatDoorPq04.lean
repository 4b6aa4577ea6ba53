/-
  Proved: contracts of functions, plain facts. Conditions: as each says.
-/
import Derived.Test.YtakceggnadagmaaGreatDoorPq03
import Derived.Deep.AppendLies
import Derived.Test.YtakceggnadagmaaGreatDoorRows
import Derived.Deep.RegionHeld
namespace Go.Proofs.YtakceggnadagmaaGreatDoor
open Go Go.RowKit GlyphMath LexMath TreeMath ParseMath
structure ElT (t e sz bytes:Nat):Prop where
  und:Tryz.prog.underlying t=some (.slice e)
  info:∃i z,Tryz.prog.info? e=some i∧i.zero=some z∧i.size=sz∧i.bytes=bytes∧z.cells.size=sz
  pos:0<sz
  small:sz≤100∧bytes≤1000
theorem elT_of {t e sz bytes:Nat} {z:Value} (hu:Tryz.prog.underlying t=some (.slice e)) (hi:(Tryz.prog.info? e).map (fun i=>(i.zero,i.size,i.bytes))=some (some z,sz,bytes)) (hz:z.cells.size=sz) (hp:0<sz) (hs:sz≤100∧bytes≤1000):ElT t e sz bytes:=by
  obtain⟨i,h1,h2,h3,h4⟩:=info_parts hi;exact⟨hu,⟨i,z,h1,h2,h3,h4,hz⟩,hp,hs⟩
theorem elNode:ElT 54 56 8 176:=elT_of (z:= .agg zeroN.toArray) Tryz.underlying54 (by kernel_rfl) rfl (by decide) (by decide)
theorem elWord:ElT 39 70 1 24:=elT_of (z:= .agg #[.slice none 0 0]) Tryz.underlying39 (by kernel_rfl) rfl (by decide) (by decide)
theorem elWords:ElT 40 39 1 24:=elT_of (z:= .slice none 0 0) Tryz.underlying40 (by kernel_rfl) rfl (by decide) (by decide)
theorem elRedir:ElT 42 103 2 40:=elT_of (z:= .agg #[.string ⟨#[]⟩,.slice none 0 0]) Tryz.underlying42 (by kernel_rfl) rfl (by decide) (by decide)
theorem elAssign:ElT 41 105 2 40:=elT_of (z:= .agg #[.string ⟨#[]⟩,.slice none 0 0]) Tryz.underlying41 (by kernel_rfl) rfl (by decide) (by decide)
theorem elPart:ElT 68 113 5 72:=elT_of (z:= .agg #[.int .i64 0,.string ⟨#[]⟩,.string ⟨#[]⟩,.slice none 0 0,.bool false]) Tryz.underlying68 (by kernel_rfl) rfl (by decide) (by decide)
theorem fill_one {sz:Nat} (hs:0<sz) (v:Value) (zs:Array Value) (cs:List Value) (hv:v.cells=cs.toArray) (hc:cs.length=sz) (hz:zs.size=sz):Instr.fill (fun i=>some (i*sz,sz)) zs [(0,v)]=some cs.toArray:=by
  have h:=Great.fill_whole hs [v] zs (fun u hu=>by
    have hu:u=v:=(by simpa using hu);rw[hu,hv]
    simp[hc]) (by simp[hz])
  simp only[List.zipIdx_cons,List.zipIdx_nil,List.map_cons,List.map_nil,List.flatMap_cons,List.flatMap_nil,List.append_nil,hv]at h;exact h
section
variable {t e sz bytes : Nat} (hT : ElT t e sz bytes)
include hT
theorem wpList_one {ops:Array Oper} {rest:List Oper} {o:Oper} {a:Act} {w:World} {Q:Exit→Act→World→Prop} (hg:o.guard=none) (x:Operand) (ho:o.op= .buildSlice t 1 #[(0,x)]) (v:Value) (cs:List Value) (hv:v.cells=cs.toArray) (hc:Cel sz cs) (hx:a.eval x=v)
    (h:wpList Tryz.prog ops Q rest (a.put o.dst (.slice (some ⟨w.heap.size,0,none⟩) 1 1)) (w.alloc (.cells cs.toArray e))):wpList Tryz.prog ops Q (o::rest) a w:=by
  obtain⟨i,z,h1,h2,h3,h4,h5⟩:=hT.info;have hp:=hT.pos;have hs:=hT.small;refine wpList_buildSlice hg t e 1 #[(0,x)] ho cs.toArray i z hT.und h1 h2 (by rw[h3];omega) (by rw[h3];omega) ?_ h;rw[h3];rw[show (#[(0,x)].map fun (i,x)=>(i,a.eval x)).toList= [(0,v)] by simp[hx]];exact fill_one hp v _ cs hv hc.1 (by simp)
theorem wp_one {o:Oper} {a:Act} {w:World} {K:Act→World→Prop} {Q:Exit→Act→World→Prop} (x:Operand) (ho:o.op= .buildSlice t 1 #[(0,x)]) (v:Value) (cs:List Value) (hv:v.cells=cs.toArray) (hc:Cel sz cs) (hx:a.eval x=v)
    (h:K (a.put o.dst (.slice (some ⟨w.heap.size,0,none⟩) 1 1)) (w.alloc (.cells cs.toArray e))):o.wp Tryz.prog a w K Q:=by
  obtain⟨i,z,h1,h2,h3,h4,h5⟩:=hT.info;have hp:=hT.pos;have hs:=hT.small;refine wp_buildSlice t e 1 #[(0,x)] ho cs.toArray i z hT.und h1 h2 (by rw[h3];omega) (by rw[h3];omega) ?_ h;rw[h3];rw[show (#[(0,x)].map fun (i,x)=>(i,a.eval x)).toList= [(0,v)] by simp[hx]];exact fill_one hp v _ cs hv hc.1 (by simp)
theorem wp_two {o:Oper} {a:Act} {w:World} {K:Act→World→Prop} {Q:Exit→Act→World→Prop} (x y:Operand) (ho:o.op= .buildSlice t 2 #[(0,x),(1,y)]) (v u:Value) (cs ds:List Value) (hv:v.cells=cs.toArray) (hu:u.cells=ds.toArray) (hc:Cel sz cs) (hd:Cel sz ds) (hx:a.eval x=v) (hy:a.eval y=u)
    (h:K (a.put o.dst (.slice (some ⟨w.heap.size,0,none⟩) 2 2)) (w.alloc (.cells (cs++ds).toArray e))):o.wp Tryz.prog a w K Q:=by
  obtain⟨i,z,h1,h2,h3,h4,h5⟩:=hT.info;have hp:=hT.pos;have hs:=hT.small;refine wp_buildSlice t e 2 #[(0,x),(1,y)] ho (cs++ds).toArray i z hT.und h1 h2 (by rw[h3];omega) (by rw[h3];omega) ?_ h;rw[h3];rw[show (#[(0,x),(1,y)].map fun (i,x)=>(i,a.eval x)).toList= [(0,v),(1,u)] by simp[hx,hy]]
  have h:=Great.fill_whole hp [v,u] ((Array.range (2*sz)).map (z.cells[· % z.cells.size]!)) (fun b hb=>by
    simp only[List.mem_cons,List.not_mem_nil,or_false]at hb
    rcases hb with rfl|rfl
    · rw[hv];simp[hc.1]
    · rw[hu];simp[hd.1]) (by simp)
  simp only[List.zipIdx_cons,List.zipIdx_nil,List.map_cons,List.map_nil,List.flatMap_cons,List.flatMap_nil,List.append_nil,hv,hu]at h;exact h
theorem wp_push {α:Type} {P:World→List Value→α→Prop} {o:Oper} {a:Act} {K:Act→World→Prop} {Q:Exit→Act→World→Prop} (s x:Operand)
    (ho:o.op= .call { callee:= .builtin .append,args:= #[s,x],argTypes:= #[t,t] }) {w0 w:World} {B C c:Nat} {p:Option Addr} {css:List (List Value)} {l:List α} {F:Nat→Prop} {cs:List Value} {y:α}
    (hr:RowG w0 w e sz P B (.slice p l.length c) css l F) (hcs:Cel sz cs) (hy:NewAt w0 w C fun W=>P W cs y) (hB:B≤C) (hC:∀k,(Value.slice p l.length c).ownBlock=some k→k<C) (hl:l.length≤100000)
    (hs:a.eval s= .slice p l.length c) (hx:a.eval x= .slice (some ⟨w.heap.size,0,none⟩) 1 1) (hBw:B≤w.heap.size)
    (h:∀p' c' F' w',RowG w0 w' e sz P B (.slice p' (l.length+1) c') (css++ [cs]) (l++ [y]) F'→(∀k,F' k→F k∨(C≤k∧k<w.heap.size))→((Value.slice p' (l.length+1) c').ownBlock=(Value.slice p l.length c).ownBlock∨∀k,(Value.slice p' (l.length+1) c').ownBlock=some k→w.heap.size≤k)→
      Kept (fun k=>(Value.slice p l.length c).ownBlock=some k) w w'→K (a.put o.dst (.slice p' (l.length+1) c')) w'):
    o.wp Tryz.prog a (w.alloc (.cells cs.toArray e)) K Q:=by
  obtain⟨i,z,h1,h2,h3,h4,h5⟩:=hT.info;have hsm:=hT.small;have hm:(l.length+1)*bytes≤100001*1000:=Nat.mul_le_mul (by omega) hsm.2;have hsz:(w.alloc (.cells cs.toArray e)).heap.size=w.heap.size+1:=(by simp);refine wp_append_lies _ s x t ho B e i z sz bytes hT.und h1 h2 h3 h4 h5 hT.pos (.slice p l.length c) l.length css.flatten hs (hr.own.alloc _) ⟨w.heap.size,0,none⟩ 1 1 cs hx (by rw[hcs.1];omega) (fun j u hu=>World.news_of_block (heap_alloc_new w _) j u (by simpa using hu)) hcs.2 (by omega) (by unfold maxLen;omega) (by omega) (by rw[hsz];omega) (w.heap.size+1) hsz ?_;intro g cap w' hown hgrow hat hlt;obtain⟨F',hF,hF'⟩:=hr.add hcs hy hB hC (w1:=w.alloc (.cells cs.toArray e)) ((Kept.of_below (below_new w _))) hown hgrow (hat.imp id fun e=>by omega);refine h _ _ F' w' hF hF' (hat.imp (fun e=>e.symm) fun e k hk=> ?_) ?_
  · have e':g=k:=by simpa [Value.ownBlock]using hk
    omega
  · exact(Kept.of_below (below_new w (.cells cs.toArray e))).grown hgrow fun k hk=> .inl hk
theorem wpList_push {α:Type} {P:World→List Value→α→Prop} {ops:Array Oper} {rest:List Oper} {o:Oper} {a:Act} {Q:Exit→Act→World→Prop} (hgd:o.guard=none) (s x:Operand)
    (ho:o.op= .call { callee:= .builtin .append,args:= #[s,x],argTypes:= #[t,t] }) {w0 w:World} {B C c:Nat} {p:Option Addr} {css:List (List Value)} {l:List α} {F:Nat→Prop} {cs:List Value} {y:α}
    (hr:RowG w0 w e sz P B (.slice p l.length c) css l F) (hcs:Cel sz cs) (hy:NewAt w0 w C fun W=>P W cs y) (hB:B≤C) (hC:∀k,(Value.slice p l.length c).ownBlock=some k→k<C) (hl:l.length≤100000)
    (hs:a.eval s= .slice p l.length c) (hx:a.eval x= .slice (some ⟨w.heap.size,0,none⟩) 1 1) (hBw:B≤w.heap.size)
    (h:∀p' c' F' w',RowG w0 w' e sz P B (.slice p' (l.length+1) c') (css++ [cs]) (l++ [y]) F'→(∀k,F' k→F k∨(C≤k∧k<w.heap.size))→((Value.slice p' (l.length+1) c').ownBlock=(Value.slice p l.length c).ownBlock∨∀k,(Value.slice p' (l.length+1) c').ownBlock=some k→w.heap.size≤k)→
      Kept (fun k=>(Value.slice p l.length c).ownBlock=some k) w w'→wpList Tryz.prog ops Q rest (a.put o.dst (.slice p' (l.length+1) c')) w'):
    wpList Tryz.prog ops Q (o::rest) a (w.alloc (.cells cs.toArray e)):=
  wpList_plain hgd fun _ hK=>wp_push hT s x ho hr hcs hy hB hC hl hs hx hBw fun p' c' F' w' h1 h2 h3 h4=>hK _ _ (h p' c' F' w' h1 h2 h3 h4)
end
def CallDo (w0:World) (f:FuncId) (cmd:Do) (d:Nat):Prop:=∀(w:World) (X:Nat) (S:PS),Pr w0 w X S→Calls Tryz.prog f #[.pointer (some ⟨X,0,none⟩),.int .i64 (d:Int)] w fun e w'=>TrEnd w0 w w' e X (cmd S)
def ZN:Obj:= .cells zeroN.toArray 56
structure LpO (w0 w wr:World) (X:Nat) (p:Option Addr) (c:Nat) (css:List (List Value)) (l:List Tr) (F:Nat→Prop) (S:PS):Prop where
  row:Kids w0 wr (w.heap.size+1) (.slice p l.length c) css l F
  pr:Pr w0 wr X S
  zero:wr.heap[w.heap.size]? =some ZN
  kept:Kept (fun k=>k=X) w wr
  few:l.length+S.ts.length≤4002
theorem LpO.size {w0 w wr:World} {X:Nat} {p:Option Addr} {c:Nat} {css:List (List Value)} {l:List Tr} {F:Nat→Prop} {S:PS} (h:LpO w0 w wr X p c css l F S):w.heap.size+1≤wr.heap.size:=(gS.1 h.zero).1
theorem LpO.step {w0 w wr w1:World} {X:Nat} {p:Option Addr} {c:Nat} {css:List (List Value)} {l:List Tr} {F:Nat→Prop} {S S':PS} (h:LpO w0 w wr X p c css l F S) (hX:X<w.heap.size) (hs:PStep w0 wr w1 X S') (hl:S'.ts.length≤S.ts.length):LpO w0 w w1 X p c css l F S':=
  ⟨h.row.kept hs.2 (fun k hk=>by have:=(h.row.lt k hk).1;omega),hs.1,hs.2.heap h.zero (by omega),h.kept.on hs.2,by have:=h.few;omega⟩
theorem LpO.push {w0 w wr w1:World} {X:Nat} {p p':Option Addr} {c c':Nat} {css:List (List Value)} {l:List Tr} {F F':Nat→Prop} {S:PS} {cs:List Value} {y:Tr} (h:LpO w0 w wr X p c css l F S) (hX:X<w.heap.size) (hX0:w0.heap.size≤X)
    (hr:Kids w0 w1 (w.heap.size+1) (.slice p' (l.length+1) c') (css++ [cs]) (l++ [y]) F') (hk:Kept (fun k=>(Value.slice p l.length c).ownBlock=some k) wr w1) (hf:l.length+1+S.ts.length≤4002):LpO w0 w w1 X p' c' (css++ [cs]) (l++ [y]) F' S:=by
  have hb:∀k,(Value.slice p l.length c).ownBlock=some k→w.heap.size+1≤k:=fun k hk=>(h.row.lt k (.inr hk)).1;refine⟨by rw[List.length_append];exact hr,h.pr.kept hk (fun e=>by have:=hb _ e;omega) (fun k e=>by have:=hb _ e;omega),hk.heap h.zero (fun e=>by have:=hb _ e;omega),h.kept.trans hk fun i hi=> .inr (by have:=hb _ hi;omega),by rw[List.length_append];simpa [Nat.add_comm,Nat.add_left_comm,Nat.add_assoc]using hf⟩
theorem LpO.ret {w0 w w3 w4:World} {X:Nat} {p:Option Addr} {c:Nat} {css:List (List Value)} {l:List Tr} {F:Nat→Prop} {S:PS} (h:LpO w0 w w3 X p c css l F S) (hX:X<w.heap.size) (hX0:w0.heap.size≤X) {cs:List Value} {t:Tr} (hb:Below w3.heap.size w3 w4) (hc:Cel 8 cs) (hn:NewAt w0 w4 (w.heap.size+1) fun W=>TrC W cs t):
    TrEnd w0 w (w4.setRow w.heap.size cs.toArray) (.returned (.agg cs.toArray)) X (t,S):=by
  have hk:=kept_row0 w4 w.heap.size cs.toArray;exact⟨cs,rfl,hc,(hn.kept hk (fun k h1 h2=>by omega)).base (by omega),(h.pr.new hb).kept hk (by omega) (fun i hi=>by omega),(h.kept.on (Kept.of_below hb)).trans hk fun i hi=> .inr (by omega)⟩
theorem pipeL_go {cmd:Do} {f:Nat} {l:List Tr} {S:PS} (h:S.is [124]=true):pipeL cmd (f+1) l S=pipeL cmd f (l++ [(cmd S.take.lines).1]) (cmd S.take.lines).2:=by rw[pipeL,if_pos h]
theorem pipeL_end {cmd:Do} {f:Nat} {l:List Tr} {S:PS} (h:S.is [124]=false):pipeL cmd (f+1) l S=(l,S):=by rw[pipeL,if_neg (by rw[h];decide)]
theorem notz_heap {w w4 w5 w6:World} {o1 o2 z:Obj} (h5:w5=(w4.alloc o1).alloc o2) (hb:Below w5.heap.size w5 w6) (hz:w4.heap[w.heap.size]? =some z):w6.heap[w.heap.size]? =some z:=by
  have h1:=(gS.1 hz).1;have h2:w5.heap.size=w4.heap.size+2:=(by rw[h5];simp);rw[hb.block _ (by omega),h5,Below.heap_alloc _ _ _ (by simp;omega),Below.heap_alloc _ _ _ h1];exact hz
set_option maxHeartbeats 4000000 in
set_option maxRecDepth 4000 in
theorem ppipe_any {w0:World} {cmd:Do} {d:Nat} (hok:DoOk cmd) (hc:CallDo w0 130 cmd d):CallDo w0 103 (pipeM cmd) d:=by
  intro w X S h;have HB:=yH (below_new w);have HX:=yH h.base;have HZ:=yH (show(w.alloc ZN).heap[w.heap.size]? =some ZN from heap_alloc_new w ZN);have HT:=yH (ptakes_any (h.new (below_new w ZN)) [33]);have HG:=yH h.good;have HM:=yH (show pipeM cmd S=((if(S.takes [33]).1 then trOf [110,111,116] [several [112,105,112,101] (pipeL cmd (cmd (S.takes [33]).2).2.ts.length [(cmd (S.takes [33]).2).1] (cmd (S.takes [33]).2).2).1]else several [112,105,112,101] (pipeL cmd (cmd (S.takes [33]).2).2.ts.length [(cmd (S.takes [33]).2).1] (cmd (S.takes [33]).2).2).1),(pipeL cmd (cmd (S.takes [33]).2).2.ts.length [(cmd (S.takes [33]).2).1] (cmd (S.takes [33]).2).2).2)from rfl);have HG1:=yH (to_takes h.good [33]);obtain⟨b,hb⟩:∃b,(S.takes [33]).1=b:=⟨_,rfl⟩;obtain⟨S1,hS1⟩:∃S1,(S.takes [33]).2=S1:=⟨_,rfl⟩;rw[hb,hS1]at HM HT;rw[hS1]at HG1;obtain⟨q,hq⟩:∃q,pipeL cmd (cmd S1).2.ts.length [(cmd S1).1] (cmd S1).2=q:=⟨_,rfl⟩;rw[hq]at HM;have HQ:=yH hq;have HC:=yH hc;obtain⟨D,hD⟩:∃D:Int,(d:Int)=D:=⟨_,rfl⟩;have HD:=yH hD;rw[hD];clear h hb hS1 hq hc hD;go_enter Tryz.func103,Tryz.ntmps103
  go_wp2_with (first
    |(go_at_call 102;refine HT.out.mono ?_;rintro en w1 ⟨rfl,hs1⟩;have HS1:=yH (And.intro hs1 (hs1.2.heap HZ.out (by have:=HX.out;omega)));clear hs1)
    |(go_at_call 130;rw[←HD.out];refine(HC.out w1 X S1 HS1.out.1.1).mono ?_;rintro en w2 ⟨c1,rfl,hcel,hnew,hs2⟩;rw[HD.out];have HS2:=yH (And.intro hcel (And.intro hnew (And.intro hs2 (hs2.2.heap HS1.out.2 (by have:=HX.out;omega)))));clear hcel hnew hs2)
    |(refine wpList_one elNode (by rfl) (.tmp 12) (by rfl) _ c1 rfl HS2.out.1 (by rfl) ?_))
  have hrow:=RowG.one (e:=56) (B:=w.heap.size+1) HS2.out.1 HS2.out.2.1 (gS.1 HS1.out.2).1 (Nat.le_trans (gS.1 HS1.out.2).1 HS2.out.2.2.1.2.size);obtain⟨F1,hrow, -⟩:=hrow
  have hL0:LpO w0 w (w2.alloc (.cells c1.toArray 56)) X (some ⟨w2.heap.size,0,none⟩) 1 [c1] [(cmd S1).1] F1 (cmd S1).2:=by
    have hg1:=HG1.out;have hg2:=hok _ hg1.good;have hfew:=hg2.good.few;refine⟨hrow,HS2.out.2.2.1.1.new (below_new _ _),(Below.heap_alloc _ _ _ (gS.1 HS2.out.2.2.2).1).trans HS2.out.2.2.2,(((Kept.of_below (HB.out ZN)).on HS1.out.1.2).on HS2.out.2.2.1.2).on (Kept.of_below (below_new _ _)),by simp only[List.length_singleton];omega⟩
  have HL0:=yH hL0;clear hL0 hrow
  go_loopw [6] (fun v wr=> ∃f p c css l F S',v= .slice p l.length c∧LpO w0 w wr X p c css l F S'∧pipeL cmd f l S'=q∧S'.ts.length≤f) (fun _ wr=>psLen wr X)
  case atStart=>exact⟨_,_,_,_,_,_,_,rfl,HL0.out,HQ.out,Nat.le_refl _⟩
  case round=>
    obtain⟨f,p,c,css,l,F,S',rfl,hL,hm,hf⟩:=hrel;have hpos:=hL.pr.good.pos;obtain⟨f,rfl⟩:∃g,f=g+1:=⟨f-1,by omega⟩;have HT2:=yH (ptakes_any hL.pr [124]);have HS:=yH (And.intro hL (And.intro hm hf));clear hL hm hf hpos;unfold PS.takes at HT2
    cases hi:S'.is [124]with
    |true=>
      rw[hi,if_pos rfl]at HT2;have HI:=yH hi;clear hi;obtain⟨n,hn⟩:∃n,l.length=n:=⟨_,rfl⟩;have HN:=yH hn;rw[hn];clear hn
      go_wp2_with (first
        |(go_at_call 102;refine HT2.out.mono ?_;rintro en w3 ⟨rfl,hs⟩;have HS3:=yH (And.intro hs (HS.out.1.step HX.out.2 hs (to_take HS.out.1.pr.good).len));clear hs)
        |(go_at_call 76;refine(plines_any HS3.out.1.1).mono ?_;rintro en w4 ⟨rfl,hs⟩;have HS4:=yH (And.intro hs (HS3.out.2.step HX.out.2 hs (to_lines (to_take HS.out.1.pr.good).good).len));clear hs)
        |(go_at_call 130;rw[←HD.out];refine(HC.out w4 X S'.take.lines HS4.out.1.1).mono ?_;rintro en w5 ⟨c5,rfl,hcel,hnew,hs⟩;rw[HD.out];have HS5:=yH (And.intro hcel (And.intro hnew (And.intro hs (HS4.out.2.step HX.out.2 hs (hok _ HS4.out.1.1.good).len))));clear hcel hnew hs)
        |(refine wpList_one elNode (by rfl) (.tmp 21) (by rfl) _ c5 rfl HS5.out.1 (by rfl) ?_)
        |(at_builtin;refine wpList_push elNode (by rfl) (.tmp 18) (.tmp 22) (by rfl) HS5.out.2.2.2.row HS5.out.1 HS5.out.2.1 HS4.out.2.size (fun k hk=>(HS4.out.2.row.lt k (.inr hk)).2) (by have:=HS5.out.2.2.2.few;omega) (by rw[HN.out];rfl) (by rfl) HS5.out.2.2.2.size ?_;intro p6 c6 F6 w6 hr6 _ _ hk6;rw[HN.out]at hr6;have HS6:=yH (And.intro hr6 hk6);clear hr6 hk6))
      go_roundw
      case rel=>
        have hlt:=pipe_lt hok HS.out.1.pr.good (by decide) HI.out;have h6:=HS6.out.1;rw[←HN.out]at h6;have hfew:=HS.out.1.few;refine⟨f,p6,c6,_,_,F6,(cmd S'.take.lines).2,by rw[List.length_append,HN.out];rfl,HS5.out.2.2.2.push HX.out.2 HX.out.1 h6 HS6.out.2 (by omega),by rw[←pipeL_go HI.out];exact HS.out.2.1,by have:=HS.out.2.2;omega⟩
      case measure=>
        have hlt:=pipe_lt hok HS.out.1.pr.good (by decide) HI.out;have h6:=HS6.out.1;rw[←HN.out]at h6;have hfew:=HS.out.1.few;rw[(HS5.out.2.2.2.push HX.out.2 HX.out.1 h6 HS6.out.2 (by omega)).pr.len,HS.out.1.pr.len];exact hlt
    |false=>
      rw[hi,if_neg (by decide)]at HT2;have HI:=yH hi;clear hi;have HQ2:=yH (show q=(l,S')from by rw[←HS.out.2.1,pipeL_end HI.out]);have HM2:=yH (show pipeM cmd S=((if b then trOf [110,111,116] [several [112,105,112,101] l]else several [112,105,112,101] l),S')from by rw[HM.out,HQ2.out]);obtain⟨n,hn⟩:∃n,l.length=n:=⟨_,rfl⟩;have HN:=yH hn;rw[hn];clear hn
      cases b with
      |false=>
        rw[if_neg (by decide)]at HM2
        go_wp2_with (first
          |(go_at_call 102;refine HT2.out.mono ?_;rintro en w3 ⟨rfl,hs⟩;have HL3:=yH (HS.out.1.step HX.out.2 hs (Nat.le_refl _));have HSV:=yH (several_any HL3.out.row (by have:=HL3.out.few;unfold maxLen;omega) [112,105,112,101]);rw[HN.out]at HSV;clear hs)
          |(go_at_call 80;refine HSV.out.mono ?_;rintro en w4 ⟨c4,rfl,hcel,hnew,hb4⟩;have HS4:=yH (And.intro hcel (And.intro hnew (And.intro hb4 ((hb4.block w.heap.size (by have:=HL3.out.size;omega)).trans HL3.out.zero))));clear hcel hnew hb4)
          |(refine wpList_store_row (by rfl) 56 (.tmp 7) (.tmp 25) (by rfl) w4.heap.size c4.toArray (by rfl) (by rfl) 56 zeroN.toArray (heap_alloc_new w4 _) (by rw[node_info];simp[HS4.out.1.1]) (by simp[HS4.out.1.1,zeroN,ofC]) (all_oneCell_toArray HS4.out.1.2) ?_;rw[World.setRow_alloc_new])
          |(refine wpList_load_row (by rfl) 56 (.tmp 7) (by rfl) w4.heap.size (by rfl) 56 c4.toArray (0,0) _ (heap_alloc_new w4 _) Tryz.underlying56 rfl (by rw[node_info];simp[HS4.out.1.1]) ?_)
          |(refine wpList_store_row (by rfl) 56 (.tmp 4) (.tmp 30) (by rfl) w.heap.size c4.toArray (by rfl) (by rfl) 56 zeroN.toArray ((Below.heap_alloc w4 _ _ (gS.1 HS4.out.2.2.2).1).trans HS4.out.2.2.2) (by rw[node_info];simp[HS4.out.1.1]) (by simp[HS4.out.1.1,zeroN,ofC]) (all_oneCell_toArray HS4.out.1.2) ?_))
        (try simp only[Exit.inBlock,Exit.then])
        obtain⟨hcel,hnew,hb4,hz4⟩:=HS4.out;have hz:=setRow_heap (w4.alloc (.cells c4.toArray 56)) w.heap.size zeroN.toArray c4.toArray 56 (0,0) ((Below.heap_alloc w4 _ _ (gS.1 hz4).1).trans hz4);refine bodyPost_ret (ret_tree rfl hz hcel rfl) rfl ?_;rw[HM2.out];have hk4:Kept (fun i=>i=w.heap.size) w4 ((w4.alloc (.cells c4.toArray 56)).setRow w.heap.size c4.toArray):=(Kept.of_below (below_new w4 _)).on (kept_row0 _ _ _);have hx:=HX.out;refine⟨c4,rfl,hcel,(hnew.kept hk4 (fun k h1 h2=>by omega)).base (by omega),(HL3.out.pr.new hb4).kept hk4 (by omega) (fun i hi=>by omega),?_⟩;exact(HL3.out.kept.on (Kept.of_below hb4)).trans hk4 fun i hi=> .inr (by omega)
      |true=>
        rw[if_pos rfl]at HM2
        go_wp2_with (first
          |(go_at_call 102;refine HT2.out.mono ?_;rintro en w3 ⟨rfl,hs⟩;have HL3:=yH (HS.out.1.step HX.out.2 hs (Nat.le_refl _));have HSV:=yH (several_any HL3.out.row (by have:=HL3.out.few;unfold maxLen;omega) [112,105,112,101]);rw[HN.out]at HSV;clear hs)
          |(go_at_call 80;refine HSV.out.mono ?_;rintro en w4 ⟨c4,rfl,hcel,hnew,hb4⟩;have HS4:=yH (And.intro hcel (And.intro hnew (And.intro hb4 ((hb4.block w.heap.size (by have:=HL3.out.size;omega)).trans HL3.out.zero))));clear hcel hnew hb4)
          |(refine wpList_store_row (by rfl) 56 (.tmp 7) (.tmp 25) (by rfl) w4.heap.size c4.toArray (by rfl) (by rfl) 56 zeroN.toArray (heap_alloc_new w4 _) (by rw[node_info];simp[HS4.out.1.1]) (by simp[HS4.out.1.1,zeroN,ofC]) (all_oneCell_toArray HS4.out.1.2) ?_;rw[World.setRow_alloc_new])
          |(refine wpList_load_row (by rfl) 56 (.tmp 7) (by rfl) w4.heap.size (by rfl) 56 c4.toArray (0,0) _ (heap_alloc_new w4 _) Tryz.underlying56 rfl (by rw[node_info];simp[HS4.out.1.1]) ?_)
          |(refine wpList_one elNode (by rfl) (.tmp 27) (by rfl) _ c4 rfl HS4.out.1 (by rfl) ?_;obtain⟨w5,hw5⟩:∃w5,w5=(w4.alloc (.cells c4.toArray 56)).alloc (.cells c4.toArray 56):=⟨_,rfl⟩;rw[←hw5];have HW5:=yH hw5;clear hw5)
          |(go_at_call 106;refine(of_any _ _ _ _ _).mono ?_;rintro en w6 ⟨rfl,hb6⟩;have HS6:=yH hb6;clear hb6)
          |(refine wpList_store_row (by rfl) 56 (.tmp 4) (.tmp 29) (by rfl) w.heap.size (ofC ⟨#[110,111,116]⟩ (.slice (some ⟨w4.heap.size+1,0,none⟩) 1 1)).toArray (by rfl) (by rfl) 56 zeroN.toArray (notz_heap HW5.out HS6.out HS4.out.2.2.2) (by rw[node_info];rfl) rfl (all_oneCell_toArray (ofC_cel _ _ _ _).2) ?_))
        (try simp only[Exit.inBlock,Exit.then])
        obtain⟨hcel,hnew,hb4,hz4⟩:=HS4.out;have hz:=setRow_heap w6 w.heap.size zeroN.toArray (ofC ⟨#[110,111,116]⟩ (.slice (some ⟨w4.heap.size+1,0,none⟩) 1 1)).toArray 56 (0,0) (notz_heap HW5.out HS6.out hz4);refine bodyPost_ret (ret_tree rfl hz (ofC_cel _ _ _ _) rfl) rfl ?_;rw[HM2.out];have hx:=HX.out;have hs4:=HL3.out.size;have hs5:=hb4.size;obtain⟨F5,hr5, -⟩:=RowG.one (w0:=w0) (w:=w4.alloc (.cells c4.toArray 56)) (e:=56) (B:=w.heap.size+1) (C:=w.heap.size+1) hcel (hnew.kept (D:=fun _=>False) (Kept.of_below (below_new w4 _)) (fun _ _ _ h=>h)) (Nat.le_refl _) (by simp;omega);rw[←HW5.out,show(w4.alloc (.cells c4.toArray 56)).heap.size=w4.heap.size+1 by simp]at hr5;have ht:=of_tree hr5 (by simp[maxLen]) [110,111,116];have hb5:Below w4.heap.size w4 w5:=(by rw[HW5.out];exact(below_new w4 _).trans ((below_new _ _).mono (by simp)));have hb6:Below w4.heap.size w4 w6:=hb5.trans (HS6.out.mono hb5.size);have hk6:=kept_row0 w6 w.heap.size (ofC ⟨#[110,111,116]⟩ (.slice (some ⟨w4.heap.size+1,0,none⟩) 1 1)).toArray;refine⟨_,rfl,ofC_cel _ _ _ _,((ht.kept (D:=fun _=>False) (Kept.of_below HS6.out) (fun _ _ _ h=>h)).kept hk6 (fun k h1 h2=>by omega)).base (by omega),((HL3.out.pr.new hb4).new hb6).kept hk6 (by omega) (fun i hi=>by omega),?_⟩;exact((HL3.out.kept.on (Kept.of_below hb4)).on (Kept.of_below hb6)).trans hk6 fun i hi=> .inr (by omega)
end Go.Proofs.YtakceggnadagmaaGreatDoor
namespace Go.Proofs.YtakceggnadagmaaGreatDoor
open Go
section
variable {P : Program} {ops : Array Oper} {Q : Exit → Act → World → Prop} {md : Region.Mode} {S : World → Prop} {L : Nat}
def wpAnyL (P:Program) (md:Region.Mode) (ops:Array Oper) (Q:Exit→Act→World→Prop) (S:World→Prop) (L:Nat):Nat→Array Bool→Act→World→Prop
  |0,listed,a,w=>Region.ready md ops listed= []∧Q .normal a w
  |fuel+1,listed,a,w=>
    (Region.ready md ops listed= []→Q .normal a w)∧
    ∀i∈Region.ready md ops listed,wpOp P ops Q i (fun a' w'=>((listed.setIfInBounds i true).getD L true=true∨S w')∧wpAnyL P md ops Q S L fuel (listed.setIfInBounds i true) a' w') a w
theorem wpAny_of_L:∀(fuel:Nat) (listed:Array Bool) (a:Act) (w:World),wpAnyL P md ops Q S L fuel listed a w→wpAny P md ops Q fuel listed a w
  |0,_,_,_,h=>h
  |fuel+1,_,_,_,h=>⟨h.1,fun i hi=>wpOp_mono (fun a' w' h'=>wpAny_of_L fuel _ a' w' h'.2) (h.2 i hi)⟩
theorem wpAnyL_first {i:Nat} {oi:Oper} {v:Value} (hi:ops[i]? =some oi) (hsel:∀(j:Nat) (o:Oper) cs b,ops[j]? =some o→o.op≠ .select cs b)
    (hQ:∀c a w,Q (.panic c) (a.put oi.dst v) w→Q (.panic c) a w) (hiL:i≠L) (hL:∀o,ops[L]? =some o→∃e∈o.after,Region.binds md e=true∧e.on=i):
    ∀(fuel:Nat) (listed:Array Bool) (a:Act) (w:World),
      (∀j oj,ops[j]? =some oj→j≠i→listed.getD j true=false→(∀e∈oj.after,Region.binds md e=true→e.on≠i)→oi.apart ops oj=true)→
      listed.getD L true=false→i∈Region.ready md ops listed→YieldsIf P ops S oi v a→S w→
      wpAnyL P md ops Q S L fuel (listed.setIfInBounds i true) (a.put oi.dst v) w→wpAnyL P md ops Q S L (fuel+1) listed a w:=by
  intro fuel
  induction fuel with
  |zero=>
    intro listed a w _ _ hr hy hS H;refine⟨fun h=>(by rw[h]at hr;cases hr),fun j hj=> ?_⟩
    by_cases hji:j=i
    · subst hji;exact hy.wpOp hi hS ⟨.inr hS,H⟩
    · have:=ready_mono hj hji
      rw[H.1]at this
      cases this
  |succ fuel ih=>
    intro listed a w hfree hl hr hy hS H;refine⟨fun h=>(by rw[h]at hr;cases hr),fun j hj=> ?_⟩
    by_cases hji:j=i
    · subst hji;exact hy.wpOp hi hS ⟨.inr hS,H⟩
    · have h1:=H.2 j (ready_mono hj hji)
      obtain⟨hjun,oj,hoj,hall⟩:=mem_ready.1 hj
      have hnot:∀e∈oj.after,Region.binds md e=true→e.on≠i:=fun e he hb heq=>by
        have h1:=hall e he hb;have h0:=(mem_ready.1 hr).1;rw[heq]at h1
        rcases Nat.lt_or_ge i listed.size with h'|h'
        · simp[h']at h0 h1;rw[h0]at h1;cases h1
        · simp[Array.getElem?_eq_none h']at h1
      have hjL:j≠L:=fun e=>by
        subst e;obtain⟨e,he,hb,heq⟩:=hL oj hoj;exact hnot e he hb heq
      have hl':(listed.setIfInBounds j true).getD L true=false:=(by rw[getD_set_ne true hjL];exact hl);have hl2:((listed.setIfInBounds i true).setIfInBounds j true).getD L true=false:=(by rw[getD_set_ne true hjL,getD_set_ne true hiL];exact hl);have h2:=wpOp_putIf hoj (hfree j oj hoj hji hjun hnot) (fun cs b=>hsel i oi cs b hi) (fun cs b=>hsel j oj cs b hoj) hQ hy h1
      have hfree':∀k ok,ops[k]? =some ok→k≠i→(listed.setIfInBounds j true).getD k true=false→
          (∀e∈ok.after,Region.binds md e=true→e.on≠i)→oi.apart ops ok=true:=fun k ok hk hki hun hno=>by
        refine hfree k ok hk hki ?_ hno
        by_cases hjk:j=k
        · subst hjk;exact hjun
        · rw[getD_set_ne true hjk]at hun;exact hun
      refine wpOp_mono (fun a' w' h3=> ?_) h2;have hS':S w':=h3.2.1.resolve_left (by rw[hl2];decide);refine⟨.inr hS',ih (listed.setIfInBounds j true) a' w' hfree' hl' (ready_mono hr (Ne.symm hji)) h3.1 hS' ?_⟩;rw[Array.setIfInBounds_comm _ _ hji];exact h3.2.2
def waitsFor (md:Region.Mode) (ops:Array Oper) (L i:Nat):Bool:=match ops[L]? with
  |some o=>o.after.any fun e=>Region.binds md e&&e.on==i
  |none=>true
theorem waitsFor_spec {i:Nat} (h:waitsFor md ops L i=true):∀o,ops[L]? =some o→∃e∈o.after,Region.binds md e=true∧e.on=i:=by
  intro o ho;unfold waitsFor at h;rw[ho]at h;simp only[Array.any_eq_true']at h;obtain⟨e,he,hb⟩:=h;rw[Bool.and_eq_true]at hb;exact⟨e,he,hb.1,by simpa using hb.2⟩
theorem takeL {i k:Nat} {oi:Oper} {v:Value} {fuel:Nat} {listed:Array Bool} {a:Act} {w:World} (hi:ops[i]? =some oi) (hk:oi.dst=some k)
    (hs:Region.noSelect ops=true) (hf:Region.free md ops listed i=true) (hr:(Region.ready md ops listed).contains i=true)
    (hQ:∀c a w,Q (.panic c) (a.put oi.dst v) w→Q (.panic c) a w) (hiL:(i !=L)=true) (hL:waitsFor md ops L i=true) (hl:listed.getD L true=false) (hw:Region.wanted oi (yielded ops a.tmps)=true)
    (hy:∀w,S w→(execOp a.eval oi).run P w= .ok (.value v) w) (hS:S w)
    (h:wpAnyL P md ops Q S L fuel (listed.setIfInBounds i true) { a with tmps:=a.tmps.setIfInBounds k v } w):wpAnyL P md ops Q S L (fuel+1) listed a w:=
  wpAnyL_first hi (Region.noSelect_spec hs) hQ (by simpa using hiL) (waitsFor_spec hL) fuel listed a w (Region.free_spec hi hf) hl (by simpa using hr) (Or.inl ⟨hw,hy⟩) hS (by rw[hk];exact h)
theorem nextL {i:Nat} {o:Oper} {fuel:Nat} {listed:Array Bool} {a:Act} {w:World} (hr:Region.ready md ops listed= [i]) (ho:ops[i]? =some o) (hw:Region.wanted o (yielded ops a.tmps)=true)
    (h:∀K:Act→World→Prop,Shut (∀a w,((listed.setIfInBounds i true).getD L true=true∨S w)→wpAnyL P md ops Q S L fuel (listed.setIfInBounds i true) a w→K a w)→Oper.wp P o a w K Q):wpAnyL P md ops Q S L (fuel+1) listed a w:=by
  refine⟨fun h0=>(by rw[hr]at h0;cases h0),fun j hj=> ?_⟩;rw[hr]at hj;obtain rfl:j=i:=(by simpa using hj)
  exact wpOp_step ho fun K' hK=>by
    rw[if_pos hw];exact h K' fun a w h1 h2=>hK a w ⟨h1,h2⟩
theorem doneL {listed:Array Bool} {a:Act} {w:World} (hr:Region.ready md ops listed= []) (h:Q .normal a w):∀fuel,wpAnyL P md ops Q S L fuel listed a w
  |0=>⟨hr,h⟩
  |_+1=>⟨fun _=>h,by rw[hr];simp⟩
theorem tkL (i k:Nat) {oi:Oper} {fuel:Nat} {listed:Array Bool} {a:Act} {w:World} (hi:ops[i]? =some oi) (hk:oi.dst=some k) (v:Value) (hy:∀w,S w→(execOp a.eval oi).run P w= .ok (.value v) w)
    (h:wpAnyL P md ops Q S L fuel (listed.setIfInBounds i true) { a with tmps:=a.tmps.setIfInBounds k v } w) (hs:Region.noSelect ops=true:=by kernel_rfl) (hf:Region.free md ops listed i=true:=by kernel_rfl) (hr:(Region.ready md ops listed).contains i=true:=by kernel_rfl)
    (hQ:∀c a w,Q (.panic c) (a.put oi.dst v) w→Q (.panic c) a w:=by exact fun _ _ _ h=>h) (hiL:(i !=L)=true:=by kernel_rfl) (hL:waitsFor md ops L i=true:=by kernel_rfl) (hl:listed.getD L true=false:=by kernel_rfl) (hw:Region.wanted oi (yielded ops a.tmps)=true:=by rfl) (hS:S w:=by assumption):
    wpAnyL P md ops Q S L (fuel+1) listed a w:=takeL hi hk hs hf hr hQ hiL hL hl hw hy hS h
theorem nxL (i:Nat) {o:Oper} {fuel:Nat} {listed:Array Bool} {a:Act} {w:World} (ho:ops[i]? =some o)
    (h:∀K:Act→World→Prop,Shut (∀a w,((listed.setIfInBounds i true).getD L true=true∨S w)→wpAnyL P md ops Q S L fuel (listed.setIfInBounds i true) a w→K a w)→Oper.wp P o a w K Q) (hr:Region.ready md ops listed= [i]:=by kernel_rfl) (hw:Region.wanted o (yielded ops a.tmps)=true:=by kernel_rfl):
    wpAnyL P md ops Q S L (fuel+1) listed a w:=nextL hr ho hw h
theorem regionL (S:World→Prop) (L:Nat) {id:Nat} {a:Act} {w:World} (hm:P.follows .mixedOrders=true) (hS:S w.drew)
    (h:S w.drew→wpAnyL P .any ops Q S L ops.size (Array.replicate ops.size false) a w.drew):(Code.region id ops true).wp P Q a w:=
  wp_region_any hm (wpAny_of_L _ _ _ _ (h hS))
end
theorem exec_load_row {P:Program} (o:Oper) {a:Act} {w:World} (ty:TypeId) (x:Operand) (ho:o.op= .load ty x) (g:Nat) (hx:a.eval x= .pointer (some ⟨g,0,none⟩)) (t:TypeId) (cs:Array Value) (fr:Nat×Nat) (d:TypeDesc) (hg:w.heap[g]? =some (.cells cs t fr))
    (hu:P.underlying ty=some d) (hd:(match d with| .struct _| .array _ _=>true|_=>false)=true) (hi:(P.info? ty).map (·.size)=some cs.size):(execOp a.eval o).run P w= .ok (.value (.agg cs)) w:=by
  unfold execOp;simp only[ho,hx,Instr.loadAt,Instr.sureAddr,Sem.run_bind,Sem.run_pure,Result.andThen_ok,run_loadVar_row w g t ty cs fr d hg hu hd hi]
end Go.Proofs.YtakceggnadagmaaGreatDoor
namespace Go.Proofs.YtakceggnadagmaaGreatDoor
open Go Go.RowKit GlyphMath LexMath TreeMath ParseMath
theorem below_drewA (w:World):Below w.heap.size w w.drew:=⟨rfl,rfl,rfl,Nat.le_refl _,fun _ _=>rfl⟩
structure AdO (w0 w wr:World) (X Bx:Nat) (c:List Value) (n:Tr) (F:Nat→Prop) (S:PS):Prop where
  box:wr.heap[Bx]? =some (.cells c.toArray 56 (0,0))
  cel:Cel 8 c
  tree:Stays w0 wr F fun W=>TrC W c n
  far:∀k,F k→w.heap.size<k∧k<wr.heap.size∧k≠Bx
  base:w.heap.size<Bx
  pr:Pr w0 wr X S
  zero:wr.heap[w.heap.size]? =some ZN
  kept:Kept (fun k=>k=X) w wr
theorem AdO.step {w0 w wr w1:World} {X Bx:Nat} {c:List Value} {n:Tr} {F:Nat→Prop} {S S':PS} (h:AdO w0 w wr X Bx c n F S) (hX:X<w.heap.size) (hs:PStep w0 wr w1 X S'):AdO w0 w w1 X Bx c n F S':=
  ⟨hs.2.heap h.box (by have:=h.base;omega),h.cel,h.tree.same fun k hk=>hs.2.block k (h.far k hk).2.1 (by have:=(h.far k hk).1;omega),fun k hk=>⟨(h.far k hk).1,Nat.lt_of_lt_of_le (h.far k hk).2.1 hs.2.size,(h.far k hk).2.2⟩,h.base,hs.1,hs.2.heap h.zero (by omega),h.kept.on hs.2⟩
theorem AdO.new {w0 w wr w1:World} {X Bx:Nat} {c:List Value} {n:Tr} {F:Nat→Prop} {S:PS} (h:AdO w0 w wr X Bx c n F S) (hX:X<w.heap.size) (hb:Below wr.heap.size wr w1):AdO w0 w w1 X Bx c n F S:=h.step hX ⟨h.pr.new hb,Kept.of_below hb⟩
theorem AdO.join {w0 w w4 w5 w6:World} {X Bx:Nat} {c c5:List Value} {n t:Tr} {F:Nat→Prop} {S:PS} (h:AdO w0 w w5 X Bx c n F S) (hX:X<w.heap.size) (hX0:w0.heap.size≤X) (hc5:Cel 8 c5) (h5:NewAt w0 w5 w4.heap.size fun W=>TrC W c5 t) (hw4:w4.heap.size≤w5.heap.size) (hB4:Bx<w4.heap.size) (op:List UInt8)
    (h6:Below (w5.alloc (.cells (c++c5).toArray 56)).heap.size (w5.alloc (.cells (c++c5).toArray 56)) w6):
    ∃F',AdO w0 w (w6.setRow Bx (ofC (T op) (.slice (some ⟨w5.heap.size,0,none⟩) 2 2)).toArray) X Bx (ofC (T op) (.slice (some ⟨w5.heap.size,0,none⟩) 2 2)) (trOf op [n,t]) F' S:=by
  obtain⟨F5,f1,f2⟩:=h5;have hbase:=h.base;have hb:∀k,F k∨F5 k→w.heap.size+1≤k∧k<w5.heap.size:=fun k hk=>hk.elim (fun hk=>⟨(h.far k hk).1,(h.far k hk).2.1⟩) fun hk=>⟨by have:=(f1 k hk).1;omega,(f1 k hk).2⟩;have hr:Kids w0 _ _ _ _ _ _:=RowG.two (e:=56) (B:=w.heap.size+1) h.cel hc5 h.tree f2 hb (by omega);have ht:=of_stays hr (by simp[maxLen]) op;have hx:Kept (fun _=>False) w5 w6:=(Kept.of_below (below_new _ _)).on (Kept.of_below h6);have hk:=kept_row0 w6 Bx (ofC (T op) (.slice (some ⟨w5.heap.size,0,none⟩) 2 2)).toArray;have hsz:(w5.alloc (.cells (c++c5).toArray 56)).heap.size=w5.heap.size+1:=(by simp)
  have hfar:∀k,((F k∨F5 k)∨(Value.slice (some ⟨w5.heap.size,0,none⟩) 2 2).ownBlock=some k)→w.heap.size<k∧k<w5.heap.size+1∧k≠Bx:=fun k hk=>by
    rcases hk with (hk|hk)|hk
    · have:=h.far k hk;exact⟨this.1,by omega,this.2.2⟩
    · have:=f1 k hk;exact⟨by omega,by omega,by omega⟩
    · have e:w5.heap.size=k:=by simpa [Value.ownBlock]using hk
      exact⟨by omega,by omega,by omega⟩
  have h6s:=h6.size;refine⟨_,⟨setRow_heap w6 Bx _ _ _ (0,0) (hx.heap h.box (fun h=>h)),ofC_cel _ _ _ _,(ht.same fun k hk'=>(hk.block k (by have:=(hfar k hk').2.1;omega) (hfar k hk').2.2).trans (h6.block k (by have:=(hfar k hk').2.1;omega))),fun k hk'=>⟨(hfar k hk').1,Nat.lt_of_lt_of_le (hfar k hk').2.1 (by rw[setRow_size];omega),(hfar k hk').2.2⟩,h.base,(h.pr.kept hx (fun h=>h) (fun _ h=>h.elim)).kept hk (by omega) (fun k e=>by omega),hk.heap (hx.heap h.zero (fun h=>h)) (by omega),(h.kept.trans hx (fun _ h=>h.elim)).trans hk fun i hi=> .inr (by omega)⟩⟩
theorem andorL_and {cmd:Do} {f:Nat} {n:Tr} {S:PS} (h:S.is [38,38]=true):andorL cmd (f+1) n S=andorL cmd f (trOf [97,110,100] [n,(pipeM cmd S.take.lines).1]) (pipeM cmd S.take.lines).2:=by rw[andorL,if_pos h]
theorem andorL_or {cmd:Do} {f:Nat} {n:Tr} {S:PS} (h1:S.is [38,38]=false) (h:S.is [124,124]=true):andorL cmd (f+1) n S=andorL cmd f (trOf [111,114] [n,(pipeM cmd S.take.lines).1]) (pipeM cmd S.take.lines).2:=by rw[andorL,if_neg (by rw[h1];decide),if_pos h]
theorem andorL_end {cmd:Do} {f:Nat} {n:Tr} {S:PS} (h1:S.is [38,38]=false) (h:S.is [124,124]=false):andorL cmd (f+1) n S=(n,S):=by rw[andorL,if_neg (by rw[h1];decide),if_neg (by rw[h];decide)]
theorem pipe_less {cmd:Do} (hc:DoOk cmd) {S:PS} (h:GoodS S) {s:List UInt8} (hs:s≠ []) (hi:S.is s=true):(pipeM cmd S.take.lines).2.ts.length<S.ts.length:=pipe_lt (to_pipe hc) h hs hi
set_option maxHeartbeats 8000000 in
set_option maxRecDepth 4000 in
theorem pandor_any {w0:World} {cmd:Do} {d:Nat} (hok:DoOk cmd) (hc:CallDo w0 103 (pipeM cmd) d):CallDo w0 77 (andorM cmd) d:=by
  intro w X S h;have HB:=yH (below_new w);have HX:=yH h.base;have HP1:=yH (h.new (below_new w ZN));have HG1:=yH (to_pipe hok S h.good);have HM:=yH (show andorM cmd S=andorL cmd (pipeM cmd S).2.ts.length (pipeM cmd S).1 (pipeM cmd S).2 from rfl);obtain⟨q,hq⟩:∃q,andorL cmd (pipeM cmd S).2.ts.length (pipeM cmd S).1 (pipeM cmd S).2=q:=⟨_,rfl⟩;rw[hq]at HM;have HQ:=yH hq;have HC:=yH hc;obtain⟨D,hD⟩:∃D:Int,(d:Int)=D:=⟨_,rfl⟩;have HD:=yH hD;rw[hD];clear h hq hc hD;go_enter Tryz.func77,Tryz.ntmps77
  go_wp2_with (first
    |(go_at_call 103;rw[←HD.out];refine(HC.out _ X S HP1.out).mono ?_;rintro en w2 ⟨c1,rfl,hcel,hnew,hs2⟩;rw[HD.out];have HS2:=yH (And.intro hcel (And.intro hnew (And.intro hs2 (hs2.2.heap (heap_alloc_new w ZN) (by have:=HX.out;omega)))));clear hcel hnew hs2)
    |(refine wpList_store_row (by rfl) 56 (.tmp 5) (.tmp 9) (by rfl) w2.heap.size c1.toArray (by rfl) (by rfl) 56 zeroN.toArray (heap_alloc_new w2 _) (by rw[node_info];simp[HS2.out.1.1]) (by simp[HS2.out.1.1,zeroN,ofC]) (all_oneCell_toArray HS2.out.1.2) ?_;rw[World.setRow_alloc_new]))
  have hA0:∃F,AdO w0 w (w2.alloc (.cells c1.toArray 56)) X w2.heap.size c1 (pipeM cmd S).1 F (pipeM cmd S).2:=by
    obtain⟨hcel,⟨F,f1,f2⟩,hs2,hz⟩:=HS2.out;have hzl:=(gS.1 hz).1;have hsz:(w.alloc ZN).heap.size=w.heap.size+1:=(by simp);have hw2:=hs2.2.size;rw[hsz]at hw2 f1;refine⟨F,heap_alloc_new w2 _,hcel,f2.same fun k hk=>Below.heap_alloc _ _ _ (f1 k hk).2,fun k hk=>⟨(f1 k hk).1,by have:=(f1 k hk).2;rw[World.size_alloc];omega,by have:=(f1 k hk).2;omega⟩,by omega,hs2.1.new (below_new _ _),(Below.heap_alloc _ _ _ hzl).trans hz,((Kept.of_below (HB.out ZN)).on hs2.2).on (Kept.of_below (below_new _ _))⟩
  obtain⟨F0,hA0⟩:=hA0;have HA0:=yH hA0;obtain⟨Bx,hBx⟩:∃Bx,w2.heap.size=Bx:=⟨_,rfl⟩;rw[hBx]at HA0 ⊢;clear hA0 hBx;simp only[Act.put]
  go_loopw [6] (fun _ wr=> ∃f c n F S',AdO w0 w wr X Bx c n F S'∧andorL cmd f n S'=q∧S'.ts.length≤f) (fun _ wr=>psLen wr X)
  case atStart=>exact⟨_,_,_,_,_,HA0.out,HQ.out,Nat.le_refl _⟩
  case round=>
    obtain⟨f,c,n,F,S',hA,hm,hf⟩:=hrel;have hpos:=hA.pr.good.pos;obtain⟨f,rfl⟩:∃g,f=g+1:=⟨f-1,by omega⟩;have HS:=yH (And.intro hA (And.intro hm hf));have HN:=yH (pnext_any hA.pr);have HBW:=yH hA.pr.below;clear hA hm hf hpos;have HI0:=yH (show(∀s,S'.is s=(textK S'.hd==s))from fun _=>rfl);obtain⟨t,ht⟩:∃t,S'.hd=t:=⟨_,rfl⟩;rw[ht]at HN HI0;clear ht;have HTX:=yH (fun W (hW:Below w0.heap.size w0 W) p k (hu:PsAt w0 (.slice p t.word.length k) t.word)=>text_any hW t p k hu)
    cases h1:S'.is [38,38]with
    |true=>
      have HI:=yH h1;have hR:textK t= [38,38]:=(by have:=HI0.out [38,38];rw[h1]at this;simpa using this.symm);rw[hR]at HTX;clear h1 hR
      go_wp2_with (first
          |(go_at_call 45;refine HN.out.mono ?_;rintro en w3 ⟨p,k,rfl,hu,hb3⟩;have HC3:=yH (HTX.out _ (HBW.out.trans (hb3.mono HBW.out.size)) p k hu);have HA3:=yH (HS.out.1.new HX.out.2 hb3);clear hu hb3)
          |(go_at_call 104;refine HC3.out.mono ?_;rintro en w4 ⟨rfl,hb4⟩;have HA4:=yH (HA3.out.new HX.out.2 hb4);clear hb4)
          |(go_at_call 105;refine(ptake_any HA4.out.pr).mono ?_;rintro en w5 ⟨p5,k5,rfl, -,hs⟩;have HA5:=yH (HA4.out.step HX.out.2 hs);clear hs)
          |(go_at_call 76;refine(plines_any HA5.out.pr).mono ?_;rintro en w6 ⟨rfl,hs⟩;have HA6:=yH (HA5.out.step HX.out.2 hs);clear hs))
      refine regionL (S:=(fun W=>W.heap[Bx]? =some (.cells c.toArray 56 (0,0)))) (L:=7) (by kernel_rfl) ?_ (fun hHeld=> ?_)
      · exact HA6.out.box
      refine tkL 0 22 rfl rfl ?_ ?_ ?_;rotate_left
      · intro _ _;go_simp<;>(with_reducible rfl)
      simp only[pS];refine takeL (i:=1) (k:=23) (v:= .agg c.toArray) rfl (by kernel_rfl) (by kernel_rfl) (by kernel_rfl) (by kernel_rfl) (fun _ _ _ h=>h) (by kernel_rfl) (by kernel_rfl) (by kernel_rfl) (by rfl) ?_ (by assumption) ?_
      · intro w hSw;exact exec_load_row _ 56 (.tmp 5) rfl Bx rfl 56 c.toArray (0,0) _ hSw Tryz.underlying56 rfl (by rw[node_info];simp[HA6.out.cel.1])
      simp only[pS];refine tkL 2 24 rfl rfl ?_ ?_ ?_;rotate_left
      · intro _ _;go_simp<;>(with_reducible rfl)
      simp only[pS];refine tkL 3 25 rfl rfl ?_ ?_ ?_;rotate_left
      · intro _ _;go_simp<;>(with_reducible rfl)
      simp only[pS];refine nxL 4 rfl (fun K hK=> ?_);go_simp
      go_wp2_with (go_at_call 103;rw[←HD.out];refine(HC.out _ X S'.take.lines (HA6.out.pr.kept (D:=fun _=>False) (Kept.of_below (below_drewA w6)) (fun h=>h) (fun _ h=>h.elim))).mono ?_;rintro en w7 ⟨c7,rfl,hcel,hnew,hs⟩;rw[HD.out];have HA7:=yH ((HA6.out.new HX.out.2 (below_drewA w6)).step HX.out.2 hs);have HS7:=yH (And.intro hcel (And.intro hnew hs.2.size));clear hcel hnew hs)
      refine hK.out _ _ ?_ ?_
      · exact .inr HA7.out.box
      clear hK K;refine nxL 5 rfl (fun K hK=> ?_);refine wp_two elNode (.tmp 23) (.tmp 26) rfl _ _ c c7 rfl rfl HA7.out.cel HS7.out.1 rfl rfl ?_;refine hK.out _ _ ?_ ?_
      · exact .inr ((Below.heap_alloc w7 _ _ (gS.1 HA7.out.box).1).trans HA7.out.box)
      clear hK K;simp only[Act.put,List.getElem_toArray,List.getElem_cons_succ,List.getElem_cons_zero,pS];refine nxL 6 rfl (fun K hK=> ?_);go_simp
      go_wp2_with (go_at_call 106;refine(of_any _ _ _ _ _).mono ?_;rintro en w8 ⟨rfl,hb8⟩;have HB8:=yH (And.intro hb8 ((hb8.block Bx (by rw[World.size_alloc];have:=(gS.1 HA7.out.box).1;omega)).trans ((Below.heap_alloc w7 _ _ (gS.1 HA7.out.box).1).trans HA7.out.box)));clear hb8)
      refine hK.out _ _ ?_ ?_
      · exact .inr HB8.out.2
      clear hK K;refine nxL 7 rfl (fun K hK=> ?_);refine wp_store_row 56 (.tmp 5) (.tmp 28) rfl Bx (ofC ⟨#[97,110,100]⟩ (.slice (some ⟨w7.heap.size,0,none⟩) 2 2)).toArray rfl rfl 56 c.toArray HB8.out.2 (by rw[node_info];rfl) (by simp[HA7.out.cel.1,ofC]) (all_oneCell_toArray (ofC_cel _ _ _ _).2) ?_;refine hK.out _ _ ?_ ?_
      · exact .inl (by kernel_rfl)
      clear hK K;simp only[Act.put,List.getElem_toArray,List.getElem_cons_succ,List.getElem_cons_zero];refine doneL (by kernel_rfl) ?_ _;obtain⟨F',hJ⟩:=HA7.out.join HX.out.2 HX.out.1 HS7.out.1 HS7.out.2.1 HS7.out.2.2 (by have:=(gS.1 HA6.out.box).1;exact this) [97,110,100] HB8.out.1;have hlt:=pipe_less hok HS.out.1.pr.good (by decide) HI.out;go_wp2_with fail
      go_roundw
      case rel=>exact⟨f,_,_,_,_,hJ,by rw[←andorL_and HI.out];exact HS.out.2.1,by have:=HS.out.2.2;omega⟩
      case measure=>rw[hJ.pr.len,HS.out.1.pr.len];exact hlt
    |false=>
      have HI1:=yH h1
      cases h2:S'.is [124,124]with
      |true=>
        have HI:=yH h2;have hR:textK t= [124,124]:=(by have:=HI0.out [124,124];rw[h2]at this;simpa using this.symm);rw[hR]at HTX;clear h1 h2 hR
        go_wp2_with (first
            |(go_at_call 45;refine HN.out.mono ?_;rintro en w3 ⟨p,k,rfl,hu,hb3⟩;have HC3:=yH (HTX.out _ (HBW.out.trans (hb3.mono HBW.out.size)) p k hu);have HA3:=yH (HS.out.1.new HX.out.2 hb3);clear hu hb3)
            |(go_at_call 104;refine HC3.out.mono ?_;rintro en w4 ⟨rfl,hb4⟩;have HA4:=yH (HA3.out.new HX.out.2 hb4);clear hb4)
            |(go_at_call 105;refine(ptake_any HA4.out.pr).mono ?_;rintro en w5 ⟨p5,k5,rfl, -,hs⟩;have HA5:=yH (HA4.out.step HX.out.2 hs);clear hs)
            |(go_at_call 76;refine(plines_any HA5.out.pr).mono ?_;rintro en w6 ⟨rfl,hs⟩;have HA6:=yH (HA5.out.step HX.out.2 hs);clear hs))
        refine regionL (S:=(fun W=>W.heap[Bx]? =some (.cells c.toArray 56 (0,0)))) (L:=7) (by kernel_rfl) ?_ (fun hHeld=> ?_)
        · exact HA6.out.box
        refine tkL 0 22 rfl rfl ?_ ?_ ?_;rotate_left
        · intro _ _;go_simp<;>(with_reducible rfl)
        simp only[pS];refine takeL (i:=1) (k:=23) (v:= .agg c.toArray) rfl (by kernel_rfl) (by kernel_rfl) (by kernel_rfl) (by kernel_rfl) (fun _ _ _ h=>h) (by kernel_rfl) (by kernel_rfl) (by kernel_rfl) (by rfl) ?_ (by assumption) ?_
        · intro w hSw;exact exec_load_row _ 56 (.tmp 5) rfl Bx rfl 56 c.toArray (0,0) _ hSw Tryz.underlying56 rfl (by rw[node_info];simp[HA6.out.cel.1])
        simp only[pS];refine tkL 2 24 rfl rfl ?_ ?_ ?_;rotate_left
        · intro _ _;go_simp<;>(with_reducible rfl)
        simp only[pS];refine tkL 3 25 rfl rfl ?_ ?_ ?_;rotate_left
        · intro _ _;go_simp<;>(with_reducible rfl)
        simp only[pS];refine nxL 4 rfl (fun K hK=> ?_);go_simp
        go_wp2_with (go_at_call 103;rw[←HD.out];refine(HC.out _ X S'.take.lines (HA6.out.pr.kept (D:=fun _=>False) (Kept.of_below (below_drewA w6)) (fun h=>h) (fun _ h=>h.elim))).mono ?_;rintro en w7 ⟨c7,rfl,hcel,hnew,hs⟩;rw[HD.out];have HA7:=yH ((HA6.out.new HX.out.2 (below_drewA w6)).step HX.out.2 hs);have HS7:=yH (And.intro hcel (And.intro hnew hs.2.size));clear hcel hnew hs)
        refine hK.out _ _ ?_ ?_
        · exact .inr HA7.out.box
        clear hK K;refine nxL 5 rfl (fun K hK=> ?_);refine wp_two elNode (.tmp 23) (.tmp 26) rfl _ _ c c7 rfl rfl HA7.out.cel HS7.out.1 rfl rfl ?_;refine hK.out _ _ ?_ ?_
        · exact .inr ((Below.heap_alloc w7 _ _ (gS.1 HA7.out.box).1).trans HA7.out.box)
        clear hK K;simp only[Act.put,List.getElem_toArray,List.getElem_cons_succ,List.getElem_cons_zero,pS];refine nxL 6 rfl (fun K hK=> ?_);go_simp
        go_wp2_with (go_at_call 106;refine(of_any _ _ _ _ _).mono ?_;rintro en w8 ⟨rfl,hb8⟩;have HB8:=yH (And.intro hb8 ((hb8.block Bx (by rw[World.size_alloc];have:=(gS.1 HA7.out.box).1;omega)).trans ((Below.heap_alloc w7 _ _ (gS.1 HA7.out.box).1).trans HA7.out.box)));clear hb8)
        refine hK.out _ _ ?_ ?_
        · exact .inr HB8.out.2
        clear hK K;refine nxL 7 rfl (fun K hK=> ?_);refine wp_store_row 56 (.tmp 5) (.tmp 28) rfl Bx (ofC ⟨#[111,114]⟩ (.slice (some ⟨w7.heap.size,0,none⟩) 2 2)).toArray rfl rfl 56 c.toArray HB8.out.2 (by rw[node_info];rfl) (by simp[HA7.out.cel.1,ofC]) (all_oneCell_toArray (ofC_cel _ _ _ _).2) ?_;refine hK.out _ _ ?_ ?_
        · exact .inl (by kernel_rfl)
        clear hK K;simp only[Act.put,List.getElem_toArray,List.getElem_cons_succ,List.getElem_cons_zero];refine doneL (by kernel_rfl) ?_ _;obtain⟨F',hJ⟩:=HA7.out.join HX.out.2 HX.out.1 HS7.out.1 HS7.out.2.1 HS7.out.2.2 (by have:=(gS.1 HA6.out.box).1;exact this) [111,114] HB8.out.1;have hlt:=pipe_less hok HS.out.1.pr.good (by decide) HI.out;go_wp2_with fail
        go_roundw
        case rel=>exact⟨f,_,_,_,_,hJ,by rw[←andorL_or HI1.out HI.out];exact HS.out.2.1,by have:=HS.out.2.2;omega⟩
        case measure=>rw[hJ.pr.len,HS.out.1.pr.len];exact hlt
      |false=>
        have HI2:=yH h2;obtain⟨R,hR⟩:∃R,T (textK t)=R:=⟨_,rfl⟩;have hl:textK t=R.toList:=(by rw[←hR,Lib.toList_data]);have q1:(R.toList== [38,38])=false:=(by rw[←hl,←HI0.out];exact h1);have q2:(R.toList== [124,124])=false:=(by rw[←hl,←HI0.out];exact h2);rw[hR]at HTX;clear h1 h2 hR hl;have HE:=yH (show andorM cmd S=(n,S')from by rw[HM.out,←HS.out.2.1,andorL_end HI1.out HI2.out])
        go_wp2_with (first
        |(go_at_call 45;refine HN.out.mono ?_;rintro en w3 ⟨p,k,rfl,hu,hb3⟩;have HC3:=yH (HTX.out _ (HBW.out.trans (hb3.mono HBW.out.size)) p k hu);have HA3:=yH (HS.out.1.new HX.out.2 hb3);clear hu hb3)
        |(go_at_call 104;refine HC3.out.mono ?_;rintro en w4 ⟨rfl,hb4⟩;have HA4:=yH (HA3.out.new HX.out.2 hb4);clear hb4)
        |(refine wpList_load_row (by rfl) 56 (.tmp 5) (by rfl) Bx (by rfl) 56 c.toArray (0,0) _ HA4.out.box Tryz.underlying56 rfl (by rw[node_info];simp[HA4.out.cel.1]) ?_)
        |(refine wpList_store_row (by rfl) 56 (.tmp 4) (.tmp 13) (by rfl) w.heap.size c.toArray (by rfl) (by rfl) 56 zeroN.toArray HA4.out.zero (by rw[node_info];simp[HA4.out.cel.1]) (by simp[HA4.out.cel.1,zeroN,ofC]) (all_oneCell_toArray HA4.out.cel.2) ?_))
        (try simp only[Exit.inBlock,Exit.then])
        have hz:=setRow_heap w4 w.heap.size zeroN.toArray c.toArray 56 (0,0) HA4.out.zero;refine bodyPost_ret (ret_tree rfl hz HA4.out.cel rfl) rfl ?_;rw[HE.out];have hk:=kept_row0 w4 w.heap.size c.toArray;have hx:=HX.out;refine⟨c,rfl,HA4.out.cel,⟨F,fun k hk'=>⟨Nat.le_of_lt (HA4.out.far k hk').1,by rw[setRow_size];exact(HA4.out.far k hk').2.1⟩,HA4.out.tree.same fun k hk'=>hk.block k (HA4.out.far k hk').2.1 (by have:=(HA4.out.far k hk').1;omega)⟩,HA4.out.pr.kept hk (by omega) (fun i hi=>by omega),HA4.out.kept.trans hk fun i hi=> .inr (by omega)⟩
theorem listL_go {cmd:Do} {f:Nat} {l:List Tr} {S:PS} (h:S.sep.1=true) (h2:S.sep.2.ends=false):listL cmd (f+1) l S=listL cmd f (l++ [(andorM cmd S.sep.2).1]) (andorM cmd S.sep.2).2:=by rw[listL,if_pos (by rw[h,h2];rfl)]
theorem listL_end {cmd:Do} {f:Nat} {l:List Tr} {S:PS} (h:S.sep.1=false∨S.sep.2.ends=true):listL cmd (f+1) l S=(l,S.sep.2):=by rw[listL,if_neg (by rcases h with h|h<;>rw[h]<;>simp)]
set_option maxHeartbeats 4000000 in
set_option maxRecDepth 4000 in
theorem plist_any {w0:World} {cmd:Do} {d:Nat} (hok:DoOk cmd) (hc:CallDo w0 77 (andorM cmd) d):CallDo w0 44 (listM cmd) d:=by
  intro w X S h;have HB:=yH (below_new w);have HX:=yH h.base;have HZ:=yH (show(w.alloc ZN).heap[w.heap.size]? =some ZN from heap_alloc_new w ZN);have HT:=yH (plines_any (h.new (below_new w ZN)));have HG1:=yH (to_lines h.good);have HM:=yH (show listM cmd S=(several [115,101,113] (listL cmd (andorM cmd S.lines).2.ts.length [(andorM cmd S.lines).1] (andorM cmd S.lines).2).1,(listL cmd (andorM cmd S.lines).2.ts.length [(andorM cmd S.lines).1] (andorM cmd S.lines).2).2)from rfl);obtain⟨S1,hS1⟩:∃S1,S.lines=S1:=⟨_,rfl⟩;rw[hS1]at HM HT HG1;obtain⟨q,hq⟩:∃q,listL cmd (andorM cmd S1).2.ts.length [(andorM cmd S1).1] (andorM cmd S1).2=q:=⟨_,rfl⟩;rw[hq]at HM;have HQ:=yH hq;have HC:=yH hc;have HOK:=yH (to_andor hok);obtain⟨D,hD⟩:∃D:Int,(d:Int)=D:=⟨_,rfl⟩;have HD:=yH hD;rw[hD];clear h hS1 hq hc hD;go_enter Tryz.func44,Tryz.ntmps44
  go_wp2_with (first
    |(go_at_call 76;refine HT.out.mono ?_;rintro en w1 ⟨rfl,hs1⟩;have HS1:=yH (And.intro hs1 (hs1.2.heap HZ.out (by have:=HX.out;omega)));clear hs1)
    |(go_at_call 77;rw[←HD.out];refine(HC.out w1 X S1 HS1.out.1.1).mono ?_;rintro en w2 ⟨c1,rfl,hcel,hnew,hs2⟩;rw[HD.out];have HS2:=yH (And.intro hcel (And.intro hnew (And.intro hs2 (hs2.2.heap HS1.out.2 (by have:=HX.out;omega)))));clear hcel hnew hs2)
    |(refine wpList_one elNode (by rfl) (.tmp 10) (by rfl) _ c1 rfl HS2.out.1 (by rfl) ?_))
  have hrow:=RowG.one (e:=56) (B:=w.heap.size+1) HS2.out.1 HS2.out.2.1 (gS.1 HS1.out.2).1 (Nat.le_trans (gS.1 HS1.out.2).1 HS2.out.2.2.1.2.size);obtain⟨F1,hrow, -⟩:=hrow
  have hL0:LpO w0 w (w2.alloc (.cells c1.toArray 56)) X (some ⟨w2.heap.size,0,none⟩) 1 [c1] [(andorM cmd S1).1] F1 (andorM cmd S1).2:=by
    have hg1:=HG1.out;have hg2:=HOK.out _ hg1.good;have hfew:=hg2.good.few;refine⟨hrow,HS2.out.2.2.1.1.new (below_new _ _),(Below.heap_alloc _ _ _ (gS.1 HS2.out.2.2.2).1).trans HS2.out.2.2.2,(((Kept.of_below (HB.out ZN)).on HS1.out.1.2).on HS2.out.2.2.1.2).on (Kept.of_below (below_new _ _)),by simp only[List.length_singleton];omega⟩
  have HL0:=yH hL0;clear hL0 hrow
  go_loopw [5] (fun v wr=> ∃f p c css l F S',v= .slice p l.length c∧LpO w0 w wr X p c css l F S'∧listL cmd f l S'=q∧S'.ts.length≤f) (fun _ wr=>psLen wr X)
  case atStart=>exact⟨_,_,_,_,_,_,_,rfl,HL0.out,HQ.out,Nat.le_refl _⟩
  case round=>
    obtain⟨f,p,c,css,l,F,S',rfl,hL,hm,hf⟩:=hrel;have hpos:=hL.pr.good.pos;obtain⟨f,rfl⟩:∃g,f=g+1:=⟨f-1,by omega⟩;have HT2:=yH (psep_any hL.pr);have HTS:=yH (to_sep hL.pr.good);have HS:=yH (And.intro hL (And.intro hm hf));clear hL hm hf hpos;have fin:(S'.sep.1=false∨S'.sep.2.ends=true)→listM cmd S=(several [115,101,113] l,S'.sep.2):=fun h=>(by rw[HM.out,←HS.out.2.1,listL_end h]);obtain⟨n,hn⟩:∃n,l.length=n:=⟨_,rfl⟩;have HN:=yH hn;rw[hn];clear hn
    cases h1:S'.sep.1 with
    |false=>
      rw[h1]at HT2;have HE:=yH (fin (.inl h1));clear h1 fin
      go_wp2_with (first
        |(go_at_call 78;refine HT2.out.mono ?_;rintro en w3 ⟨rfl,hs⟩;have HL3:=yH (HS.out.1.step HX.out.2 hs HTS.out.len);have HSV:=yH (several_any HL3.out.row (by have:=HL3.out.few;unfold maxLen;omega) [115,101,113]);rw[HN.out]at HSV;clear hs)
        |(go_at_call 80;refine HSV.out.mono ?_;rintro en w4 ⟨c4,rfl,hcel,hnew,hb4⟩;have HS4:=yH (And.intro hcel (And.intro hnew (And.intro hb4 ((hb4.block w.heap.size (by have:=HL3.out.size;omega)).trans HL3.out.zero))));clear hcel hnew hb4)
        |(refine wpList_store_row (by rfl) 56 (.tmp 4) (.tmp 26) (by rfl) w.heap.size c4.toArray (by rfl) (by rfl) 56 zeroN.toArray HS4.out.2.2.2 (by rw[node_info];simp[HS4.out.1.1]) (by simp[HS4.out.1.1,zeroN,ofC]) (all_oneCell_toArray HS4.out.1.2) ?_))
      (try simp only[Exit.inBlock,Exit.then])
      obtain⟨hcel,hnew,hb4,hz4⟩:=HS4.out;refine bodyPost_ret (ret_tree rfl (setRow_heap w4 w.heap.size zeroN.toArray c4.toArray 56 (0,0) hz4) hcel rfl) rfl ?_;rw[HE.out];exact HL3.out.ret HX.out.2 HX.out.1 hb4 hcel hnew
    |true=>
      rw[h1]at HT2;have HI1:=yH h1;clear h1
      cases h2:S'.sep.2.ends with
      |true=>
        have HE:=yH (fin (.inr h2));have HEN:=yH (fun W (hW:Pr w0 W X S'.sep.2)=>pends_any hW);rw[h2]at HEN;clear h2 fin
        go_wp2_with (first
          |(go_at_call 78;refine HT2.out.mono ?_;rintro en w3 ⟨rfl,hs⟩;have HL3:=yH (HS.out.1.step HX.out.2 hs HTS.out.len);clear hs)
          |(go_at_call 79;refine(HEN.out _ HL3.out.pr).mono ?_;rintro en w5 ⟨rfl,hb5⟩;have HL5:=yH (HL3.out.step HX.out.2 ⟨HL3.out.pr.new hb5,Kept.of_below hb5⟩ (Nat.le_refl _));have HSV:=yH (several_any HL5.out.row (by have:=HL5.out.few;unfold maxLen;omega) [115,101,113]);rw[HN.out]at HSV;clear hb5)
          |(go_at_call 80;refine HSV.out.mono ?_;rintro en w4 ⟨c4,rfl,hcel,hnew,hb4⟩;have HS4:=yH (And.intro hcel (And.intro hnew (And.intro hb4 ((hb4.block w.heap.size (by have:=HL5.out.size;omega)).trans HL5.out.zero))));clear hcel hnew hb4)
          |(refine wpList_store_row (by rfl) 56 (.tmp 4) (.tmp 26) (by rfl) w.heap.size c4.toArray (by rfl) (by rfl) 56 zeroN.toArray HS4.out.2.2.2 (by rw[node_info];simp[HS4.out.1.1]) (by simp[HS4.out.1.1,zeroN,ofC]) (all_oneCell_toArray HS4.out.1.2) ?_))
        (try simp only[Exit.inBlock,Exit.then])
        obtain⟨hcel,hnew,hb4,hz4⟩:=HS4.out;refine bodyPost_ret (ret_tree rfl (setRow_heap w4 w.heap.size zeroN.toArray c4.toArray 56 (0,0) hz4) hcel rfl) rfl ?_;rw[HE.out];exact HL5.out.ret HX.out.2 HX.out.1 hb4 hcel hnew
      |false=>
        have HI2:=yH h2;have HEN:=yH (fun W (hW:Pr w0 W X S'.sep.2)=>pends_any hW);rw[h2]at HEN;clear h2 fin
        go_wp2_with (first
          |(go_at_call 78;refine HT2.out.mono ?_;rintro en w3 ⟨rfl,hs⟩;have HL3:=yH (HS.out.1.step HX.out.2 hs HTS.out.len);clear hs)
          |(go_at_call 79;refine(HEN.out _ HL3.out.pr).mono ?_;rintro en w5 ⟨rfl,hb5⟩;have HL5:=yH (HL3.out.step HX.out.2 ⟨HL3.out.pr.new hb5,Kept.of_below hb5⟩ (Nat.le_refl _));clear hb5)
          |(go_at_call 77;rw[←HD.out];refine(HC.out _ X S'.sep.2 HL5.out.pr).mono ?_;rintro en w6 ⟨c5,rfl,hcel,hnew,hs⟩;rw[HD.out];have HS6:=yH (And.intro hcel (And.intro hnew (And.intro hs (HL5.out.step HX.out.2 hs (HOK.out _ HL5.out.pr.good).len))));clear hcel hnew hs)
          |(refine wpList_one elNode (by rfl) (.tmp 22) (by rfl) _ c5 rfl HS6.out.1 (by rfl) ?_)
          |(at_builtin;refine wpList_push elNode (by rfl) (.tmp 19) (.tmp 23) (by rfl) HS6.out.2.2.2.row HS6.out.1 HS6.out.2.1 HL5.out.size (fun k hk=>(HL5.out.row.lt k (.inr hk)).2) (by have:=HS6.out.2.2.2.few;omega) (by rw[HN.out];rfl) (by rfl) HS6.out.2.2.2.size ?_;intro p6 c6 F6 w7 hr6 _ _ hk6;rw[HN.out]at hr6;have HS7:=yH (And.intro hr6 hk6);clear hr6 hk6))
        have hlt:(andorM cmd S'.sep.2).2.ts.length<S'.ts.length:=by
          have h1:=(HOK.out _ HL5.out.pr.good).len;have h2:=sep_lt HS.out.1.pr.good HI1.out;omega
        have h6:=HS7.out.1;rw[←HN.out]at h6;have hfew:=HS.out.1.few;have hLP:=HS6.out.2.2.2.push HX.out.2 HX.out.1 h6 HS7.out.2 (by omega);have HLP:=yH hLP;clear h6 hLP
        go_roundw
        case rel=>exact⟨f,p6,c6,_,_,F6,_,by rw[List.length_append,HN.out];rfl,HLP.out,by rw[←listL_go HI1.out HI2.out];exact HS.out.2.1,by have:=HS.out.2.2;omega⟩
        case measure=>rw[HLP.out.pr.len,HS.out.1.pr.len];exact hlt
end Go.Proofs.YtakceggnadagmaaGreatDoor
