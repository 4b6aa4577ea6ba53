/-
  Proved: contracts of functions, plain facts. Conditions: as each says.
-/
import Derived.Test.YtcpmjkefbjbhpaaGreatDoorSw25
import Derived.Test.YtcpmjkefbjbhpaaGreatDoorSw26
import Derived.Test.YtcpmjkefbjbhpaaGreatDoorSw37
import Derived.Test.YtcpmjkefbjbhpaaGreatDoorSw01
import Derived.Test.YtcpmjkefbjbhpaaGreatDoorSw24
import Derived.Deep.MidRow
namespace Go.Proofs.YtcpmjkefbjbhpaaGreatDoor
open Go Go.RowKit GlyphMath LexMath TreeMath ParseMath
def ZNR:Obj:= .cells zeroN.toArray 74
theorem elTree:ElT 72 74 8 176:=elT_of (z:= .agg zeroN.toArray) Tryz.underlying72 (by kernel_rfl) rfl (by decide) (by decide)
abbrev KidsR (w0 w:World) (B:Nat) (v:Value) (css:List (List Value)) (l:List Tr) (F:Nat→Prop):Prop:=RowG w0 w 74 8 TrC B v css l F
def TrAt (w0 w w':World) (e:Ending) (X:Nat) (t:Tr) (S:PS):Prop:=∃c,e= .returned (.agg c.toArray)∧Cel 8 c∧NewAt w0 w' w.heap.size (fun W=>TrC W c t)∧QStep w0 w w' X S
def TrAtR (w0 w w':World) (e:Ending) (X:Nat) (t:Tr) (S:PS):Prop:=∃c,e= .returned (.agg c.toArray)∧(Cel 8 c∧c[6]? =some (.slice none 0 0)∧t.node.redirs= [])∧NewAt w0 w' w.heap.size (fun W=>TrC W c t)∧QStep w0 w w' X S
theorem TrAtR.plain {w0 w w':World} {e:Ending} {X:Nat} {t:Tr} {S:PS} (h:TrAtR w0 w w' e X t S):TrAt w0 w w' e X t S:=by
  obtain⟨c,h1,h2,h3,h4⟩:=h;exact⟨c,h1,h2.1,h3,h4⟩
theorem KidsR.stays {w0 w:World} {B:Nat} {v:Value} {css:List (List Value)} {l:List Tr} {F F2:Nat→Prop} (h:KidsR w0 w B v css l F) (hm:l.length≤maxLen) {n:Nd} {cs:List Value} (f2:Stays w0 w F2 fun W=>NdC W n cs):Stays w0 w (fun k=>F2 k∨(F k∨v.ownBlock=some k)) fun W=>TrC W (cs++ [v]) (.mk n l):=by
  intro W hW hf;obtain⟨⟨p,c,hv,h1⟩,h2⟩:=h.slat W hW fun k hk=>hf k (.inr hk);have h3:=f2 W hW fun k hk=>hf k (.inl hk);subst hv;exact .mk n l cs p c css h3 h.len hm h1 h2
theorem KidsR.tree {w0 w:World} {B:Nat} {v:Value} {css:List (List Value)} {l:List Tr} {F:Nat→Prop} (h:KidsR w0 w B v css l F) (hm:l.length≤maxLen) {n:Nd} {cs:List Value} (hn:NewAt w0 w B fun W=>NdC W n cs):NewAt w0 w B fun W=>TrC W (cs++ [v]) (.mk n l):=by
  obtain⟨F2,f1,f2⟩:=hn;exact⟨fun k=>F2 k∨(F k∨v.ownBlock=some k),fun k hk=>hk.elim (f1 k) (h.lt k),h.stays hm f2⟩
theorem ofr_tree {w0 w:World} {B:Nat} {v:Value} {css:List (List Value)} {l:List Tr} {F:Nat→Prop} (h:KidsR w0 w B v css l F) (hm:l.length≤maxLen) (op:List UInt8):NewAt w0 w B fun W=>TrC W (ofC (T op) v) (trOf op l):=
  h.tree hm (NewAt.of0 fun W _=>ndc_of W op)
structure LpR (w0 w wr:World) (X:Nat) (p:Option Addr) (c:Nat) (css:List (List Value)) (l:List Tr) (F:Nat→Prop) (S:PS):Prop where
  row:KidsR w0 wr (w.heap.size+1) (.slice p l.length c) css l F
  pr:Rr w0 wr X S
  zero:wr.heap[w.heap.size]? =some ZNR
  kept:Kept (fun k=>k=X) w wr
  few:l.length+S.ts.length≤4002
theorem LpR.size {w0 w wr:World} {X:Nat} {p:Option Addr} {c:Nat} {css:List (List Value)} {l:List Tr} {F:Nat→Prop} {S:PS} (h:LpR w0 w wr X p c css l F S):w.heap.size+1≤wr.heap.size:=(gS.1 h.zero).1
theorem LpR.step {w0 w wr w1:World} {X:Nat} {p:Option Addr} {c:Nat} {css:List (List Value)} {l:List Tr} {F:Nat→Prop} {S S':PS} (h:LpR w0 w wr X p c css l F S) (hX:X<w.heap.size) (hs:QStep w0 wr w1 X S') (hl:S'.ts.length≤S.ts.length):LpR w0 w w1 X p c css l F S':=
  ⟨h.row.kept hs.2 (fun k hk=>by have:=(h.row.lt k hk).1;omega),hs.1,hs.2.heap h.zero (by omega),h.kept.on hs.2,by have:=h.few;omega⟩
theorem LpR.push {w0 w wr w1:World} {X:Nat} {p p':Option Addr} {c c':Nat} {css:List (List Value)} {l:List Tr} {F F':Nat→Prop} {S:PS} {cs:List Value} {y:Tr} (h:LpR w0 w wr X p c css l F S) (hX:X<w.heap.size) (hX0:w0.heap.size≤X)
    (hr:KidsR w0 w1 (w.heap.size+1) (.slice p' (l.length+1) c') (css++ [cs]) (l++ [y]) F') (hk:Kept (fun k=>(Value.slice p l.length c).ownBlock=some k) wr w1) (hf:l.length+1+S.ts.length≤4002):LpR w0 w w1 X p' c' (css++ [cs]) (l++ [y]) F' S:=by
  have hb:∀k,(Value.slice p l.length c).ownBlock=some k→w.heap.size+1≤k:=fun k hk=>(h.row.lt k (.inr hk)).1;refine⟨by rw[List.length_append];exact hr,h.pr.kept hk (fun e=>by have:=hb _ e;omega) (fun k e=>by have:=hb _ e;omega),hk.heap h.zero (fun e=>by have:=hb _ e;omega),h.kept.trans hk fun i hi=> .inr (by have:=hb _ hi;omega),by rw[List.length_append];simpa [Nat.add_comm,Nat.add_left_comm,Nat.add_assoc]using hf⟩
theorem LpR.ret {w0 w w3 w4:World} {X:Nat} {p:Option Addr} {c:Nat} {css:List (List Value)} {l:List Tr} {F:Nat→Prop} {S:PS} (h:LpR w0 w w3 X p c css l F S) (hX:X<w.heap.size) (hX0:w0.heap.size≤X) {cs:List Value} {t:Tr} (hb:Below w3.heap.size w3 w4) (hc:Cel 8 cs) (hn:NewAt w0 w4 (w.heap.size+1) fun W=>TrC W cs t):
    TrAt w0 w (w4.setRow w.heap.size cs.toArray) (.returned (.agg cs.toArray)) X t S:=by
  have hk:=kept_row0 w4 w.heap.size cs.toArray;exact⟨cs,rfl,hc,(hn.kept hk (fun k h1 h2=>by omega)).base (by omega),(h.pr.new hb).kept hk (by omega) (fun i hi=>by omega),(h.kept.on (Kept.of_below hb)).trans hk fun i hi=> .inr (by omega)⟩
structure AdR (w0 w wr:World) (X Bx:Nat) (c:List Value) (n:Tr) (F:Nat→Prop) (S:PS):Prop where
  box:wr.heap[Bx]? =some (.cells c.toArray 74 (0,0))
  cel:Cel 8 c
  tree:Stays w0 wr F fun W=>TrC W c n
  far:∀k,F k→w.heap.size<k∧k<wr.heap.size∧k≠Bx
  base:w.heap.size<Bx
  pr:Rr w0 wr X S
  zero:wr.heap[w.heap.size]? =some ZNR
  kept:Kept (fun k=>k=X) w wr
theorem AdR.step {w0 w wr w1:World} {X Bx:Nat} {c:List Value} {n:Tr} {F:Nat→Prop} {S S':PS} (h:AdR w0 w wr X Bx c n F S) (hX:X<w.heap.size) (hs:QStep w0 wr w1 X S'):AdR w0 w w1 X Bx c n F S':=
  ⟨hs.2.heap h.box (by have:=h.base;omega),h.cel,h.tree.same fun k hk=>hs.2.block k (h.far k hk).2.1 (by have:=(h.far k hk).1;omega),fun k hk=>⟨(h.far k hk).1,Nat.lt_of_lt_of_le (h.far k hk).2.1 hs.2.size,(h.far k hk).2.2⟩,h.base,hs.1,hs.2.heap h.zero (by omega),h.kept.on hs.2⟩
theorem AdR.make {w0 w w2:World} {X B:Nat} {c:List Value} {t:Tr} {S:PS} (hcel:Cel 8 c) (hnew:NewAt w0 w2 B fun W=>TrC W c t) (hB:w.heap.size<B) (hpr:Rr w0 w2 X S) (hz:w2.heap[w.heap.size]? =some ZNR) (hk:Kept (fun k=>k=X) w w2):
    ∃F,AdR w0 w (w2.alloc (.cells c.toArray 74)) X w2.heap.size c t F S:=by
  obtain⟨F,f1,f2⟩:=hnew;have hzl:=(gS.1 hz).1;exact⟨F,heap_alloc_new w2 _,hcel,f2.same fun k hk=>Below.heap_alloc _ _ _ (f1 k hk).2,fun k hk=>⟨by have:=(f1 k hk).1;omega,by have:=(f1 k hk).2;rw[World.size_alloc];omega,by have:=(f1 k hk).2;omega⟩,by omega,hpr.new (below_new _ _),(Below.heap_alloc _ _ _ hzl).trans hz,hk.on (Kept.of_below (below_new _ _))⟩
theorem AdR.ret {w0 w w4:World} {X Bx:Nat} {c:List Value} {n:Tr} {F:Nat→Prop} {S:PS} (h:AdR w0 w w4 X Bx c n F S) (hX:X<w.heap.size) (hX0:w0.heap.size≤X):TrAt w0 w (w4.setRow w.heap.size c.toArray) (.returned (.agg c.toArray)) X n S:=by
  have hk:=kept_row0 w4 w.heap.size c.toArray;exact⟨c,rfl,h.cel,⟨F,fun k hk'=>⟨Nat.le_of_lt (h.far k hk').1,by rw[setRow_size];exact(h.far k hk').2.1⟩,h.tree.same fun k hk'=>hk.block k (h.far k hk').2.1 (by have:=(h.far k hk').1;omega)⟩,h.pr.kept hk (by omega) (fun i hi=>by omega),h.kept.trans hk fun i hi=> .inr (by omega)⟩
theorem kept_allocR {w w1:World} {z:Obj} (hz:w1.heap[w.heap.size]? =some z) (o:Obj):(w1.alloc o).heap[w.heap.size]? =some z:=(Below.heap_alloc _ _ _ (gS.1 hz).1).trans hz
theorem LpR.ofR {w0 w w3 w4:World} {X:Nat} {p:Option Addr} {c n:Nat} {css:List (List Value)} {l:List Tr} {F:Nat→Prop} {S:PS} (h:LpR w0 w w3 X p c css l F S) (hX:X<w.heap.size) (hX0:w0.heap.size≤X) (hn:l.length=n) (op:List UInt8) (hb:Below w3.heap.size w3 w4):
    TrAtR w0 w (w4.setRow w.heap.size (ofC (T op) (.slice p n c)).toArray) (.returned (.agg (ofC (T op) (.slice p n c)).toArray)) X (trOf op l) S:=by
  have hk:=kept_row0 w4 w.heap.size (ofC (T op) (.slice p n c)).toArray;have ht:=ofr_tree h.row (by have:=h.few;unfold maxLen;omega) op;rw[hn]at ht;exact⟨_,rfl,⟨ofC_cel _ _ _ _,ofC_six _ _,rfl⟩,((ht.kept (D:=fun _=>False) (Kept.of_below hb) (fun _ _ _ h=>h)).kept hk (fun k h1 h2=>by omega)).base (by omega),(h.pr.new hb).kept hk (by omega) (fun i hi=>by omega),(h.kept.on (Kept.of_below hb)).trans hk fun i hi=> .inr (by omega)⟩
theorem LpR.first {w0 w w1 w2:World} {X:Nat} {c1:List Value} {t:Tr} {S:PS} (hz:w2.heap[w.heap.size]? =some ZNR) (hcel:Cel 8 c1) (hnew:NewAt w0 w2 w1.heap.size fun W=>TrC W c1 t) (hB:w.heap.size+1≤w1.heap.size) (h12:w1.heap.size≤w2.heap.size) (hpr:Rr w0 w2 X S) (hk:Kept (fun k=>k=X) w w2):
    ∃F,LpR w0 w (w2.alloc (.cells c1.toArray 74)) X (some ⟨w2.heap.size,0,none⟩) 1 [c1] [t] F S:=by
  obtain⟨F1,hrow, -⟩:=RowG.one (e:=74) (B:=w.heap.size+1) hcel hnew hB (by omega);exact⟨F1,hrow,hpr.new (below_new _ _),(Below.heap_alloc _ _ _ (gS.1 hz).1).trans hz,hk.on (Kept.of_below (below_new _ _)),by have:=hpr.good.few;simp only[List.length_singleton];omega⟩
structure RdH (w0 w wr:World) (X:Nat) (S:PS):Prop where
  pr:Rr w0 wr X S
  zero:wr.heap[w.heap.size]? =some ZNR
  kept:Kept (fun k=>k=X) w wr
theorem RdH.begin {w0 w:World} {X:Nat} {S:PS} (h:Rr w0 w X S):RdH w0 w (w.alloc ZNR) X S:=⟨h.new (below_new w _),heap_alloc_new w _,Kept.of_below (below_new w _)⟩
theorem RdH.size {w0 w wr:World} {X:Nat} {S:PS} (h:RdH w0 w wr X S):w.heap.size+1≤wr.heap.size:=(gS.1 h.zero).1
theorem RdH.step {w0 w wr w1:World} {X:Nat} {S S':PS} (h:RdH w0 w wr X S) (hX:X<w.heap.size) (hs:QStep w0 wr w1 X S'):RdH w0 w w1 X S':=⟨hs.1,hs.2.heap h.zero (by omega),h.kept.on hs.2⟩
theorem RdH.new {w0 w wr w1:World} {X:Nat} {S:PS} (h:RdH w0 w wr X S) (hX:X<w.heap.size) (hb:Below wr.heap.size wr w1):RdH w0 w w1 X S:=h.step hX ⟨h.pr.new hb,Kept.of_below hb⟩
theorem RdH.ret {w0 w w4:World} {X:Nat} {S:PS} (h:RdH w0 w w4 X S) (hX:X<w.heap.size) (hX0:w0.heap.size≤X) {c:List Value} {t:Tr} (hc:Cel 8 c) (hn:NewAt w0 w4 (w.heap.size+1) fun W=>TrC W c t):
    TrAt w0 w (w4.setRow w.heap.size c.toArray) (.returned (.agg c.toArray)) X t S:=by
  have hk:=kept_row0 w4 w.heap.size c.toArray;exact⟨c,rfl,hc,(hn.kept hk (fun k h1 h2=>by omega)).base (by omega),h.pr.kept hk (by omega) (fun i hi=>by omega),h.kept.trans hk fun i hi=> .inr (by omega)⟩
theorem Rr.errc {w0 w:World} {X:Nat} {S:PS} (h:Rr w0 w X S):w.cell? ⟨X,2,none⟩=some (.int .i64 (S.err:Int)):=by
  obtain⟨L,G,c,i,e,a,h,rfl⟩:=h;rw[cell_plain h.head];unfold stR
  by_cases he:e=0
  · subst he;rfl
  · rw[if_neg he];rfl
theorem LpR.rd {w0 w wr:World} {X:Nat} {p:Option Addr} {c:Nat} {css:List (List Value)} {l:List Tr} {F:Nat→Prop} {S:PS} (h:LpR w0 w wr X p c css l F S):RdH w0 w wr X S:=⟨h.pr,h.zero,h.kept⟩
theorem LpR.head {w0 w wr:World} {X:Nat} {p:Option Addr} {c:Nat} {css:List (List Value)} {l:List Tr} {F:Nat→Prop} {S:PS} (h:LpR w0 w wr X p c css l F S) (hl:1≤l.length):
    ∃g cs t,p=some ⟨g,0,none⟩∧css[0]? =some cs∧l[0]? =some t∧Cel 8 cs:=by
  have hc:=h.row.len;obtain⟨cs,hcs⟩:∃cs,css[0]? =some cs:=⟨_,List.getElem?_eq_getElem (by omega)⟩;obtain⟨t,ht⟩:∃t,l[0]? =some t:=⟨_,List.getElem?_eq_getElem (by omega)⟩;obtain⟨g,c',hv,hsp⟩:=h.row.spot hcs;simp only[Value.slice.injEq,true_and]at hv;exact⟨g,cs,t,hv.1,hcs,ht,h.row.each cs (List.mem_of_getElem? hcs)⟩
theorem LpR.head2 {w0 w wr:World} {X:Nat} {g:Nat} {c:Nat} {css:List (List Value)} {l:List Tr} {F:Nat→Prop} {S:PS} {cs:List Value} {t:Tr} (h:LpR w0 w wr X (some ⟨g,0,none⟩) c css l F S) (hcs:css[0]? =some cs) (ht:l[0]? =some t):
    wr.rangeAt g 0 cs∧NewAt w0 wr (w.heap.size+1) fun W=>TrC W cs t:=by
  obtain⟨g',c',hv,hsp⟩:=h.row.spot hcs;simp only[Value.slice.injEq,Option.some.injEq,Addr.mk.injEq,and_true,true_and]at hv;obtain⟨rfl, -⟩:=hv;refine⟨fun j v hv=> ?_,⟨F,fun k hk=>⟨(h.row.far k hk).1,(h.row.far k hk).2.1⟩,h.row.sub 0 cs t hcs ht⟩⟩;have:=hsp j v hv
  rwa [Nat.zero_mul]at this
set_option linter.unusedVariables false in
theorem LpR.oneBox {w0 w w3:World} {X:Nat} {p:Option Addr} {c:Nat} {css:List (List Value)} {l:List Tr} {F:Nat→Prop} {S:PS} (h:LpR w0 w w3 X p c css l F S) (hX:X<w.heap.size) {cs:List Value} {t:Tr} (hc:Cel 8 cs) (hn:NewAt w0 w3 (w.heap.size+1) fun W=>TrC W cs t):
    ∃F',AdR w0 w (w3.alloc (.cells cs.toArray 74)) X w3.heap.size cs t F' S:=AdR.make hc hn (Nat.lt_succ_self _) h.pr h.zero h.kept
def OneAt (w0:World) (f:FuncId) (X:Nat) (d:Int) (S:PS) (t:Tr) (S':PS):Prop:=∀w,Rr w0 w X S→Calls Tryz.prog f #[.pointer (some ⟨X,0,none⟩),.int .i64 d] w fun e w'=>TrAt w0 w w' e X t S'
set_option maxHeartbeats 4000000 in
set_option maxRecDepth 4000 in
theorem kpipe {w0:World} {X:Nat} {d:Int} {S S':PS} {t:Tr} (hc:OneAt w0 144 X d S t S') (h33:S.is [33]=false) (h124:S'.is [124]=false):OneAt w0 114 X d S t S':=by
  intro w h;have HX:=yH h.base;have HR1:=yH (RdH.begin h);have HT:=yH (qword_any (RdH.begin h).pr (s:= [33]) (by decide) (by decide));unfold PS.takes at HT;rw[h33,if_neg (by decide)]at HT;have HC:=yH hc;have HI:=yH h124;clear h hc h33 h124;go_enter Tryz.func114,Tryz.ntmps114
  go_wp2_with (first
    |(go_at_call 143;refine(HT.out).mono ?_;rintro en w2 ⟨rfl,hs⟩;have HR2:=yH (HR1.out.step HX.out.2 hs);clear hs)
    |(go_at_call 144;refine(HC.out _ HR2.out.pr).mono ?_;rintro en w3 ⟨c3,rfl,hcel,hnew,hs⟩;have HL3:=yH (And.intro hcel (And.intro hnew hs));have HR3:=yH (HR2.out.step HX.out.2 hs);clear hcel hnew hs)
    |(refine wpList_one elTree (by rfl) (.tmp 12) (by rfl) _ c3 rfl HL3.out.1 (by rfl) ?_))
  obtain⟨F0,hL0⟩:=LpR.first HR3.out.zero HL3.out.1 HL3.out.2.1 HR2.out.size HL3.out.2.2.2.size HR3.out.pr HR3.out.kept;have HL0:=yH hL0;clear hL0
  go_loopw [6] (fun v wr=> ∃p c css F,v= .slice p 1 c∧LpR w0 w wr X p c css [t] F S') (fun _ wr=>0)
  case atStart=>exact⟨_,_,_,_,rfl,HL0.out⟩
  case round=>
    obtain⟨p,c,css,F,rfl,hL⟩:=hrel;have HT2:=yH (qeat_any hL.pr (s:= [124]) (by decide));unfold PS.takes at HT2;rw[HI.out,if_neg (by decide)]at HT2;have HS:=yH hL;obtain⟨g,cs,t',rfl,hcs,ht,hcel⟩:=hL.head (Nat.le_refl 1);obtain rfl:t=t':=(by simpa using ht);have HCS:=yH hcel;have HC0:=yH (And.intro hcs ht);clear hcel hcs hL ht
    go_wp2_with (first
      |(refine wpList_store_row (by rfl) 74 (.tmp 4) (.tmp 36) (by rfl) w.heap.size cs.toArray (by rfl) (by rfl) 74 zeroN.toArray HA5.out.zero (by rw[rtree_info];simp[HA5.out.cel.1]) (by simp[HA5.out.cel.1,zeroN,ofC]) (all_oneCell_toArray HA5.out.cel.2) ?_)
      |(refine wpList_load_row (by rfl) 74 (.tmp 7) (by rfl) w4.heap.size (by rfl) 74 cs.toArray (0,0) _ HA5.out.box Tryz.underlying74 rfl (by rw[rtree_info];simp[HA5.out.cel.1]) ?_)
      |(refine wpList_store_row (by rfl) 74 (.tmp 7) (.tmp 26) (by rfl) w4.heap.size cs.toArray (by rfl) (by rfl) 74 zeroN.toArray (heap_alloc_new w4 _) (by rw[rtree_info];simp[HCS.out.1]) (by simp[HCS.out.1,zeroN,ofC]) (all_oneCell_toArray HCS.out.2) ?_;rw[World.setRow_alloc_new];obtain⟨FA,hA⟩:=HS4.out.oneBox HX.out.2 HCS.out HH4.out.2;obtain⟨w5,hw⟩:∃W,W=w4.alloc (.cells cs.toArray 74):=⟨_,rfl⟩;rw[←hw]at hA ⊢;have HA5:=yH hA;clear hA hw)
      |(refine wpList_load_mid (by rfl) 74 (.tmp 25) (by rfl) g 0 (by rfl) cs _ HH4.out.1 Tryz.underlying74 rfl (by rw[rtree_info,HCS.out.1]) ?_)
      |(go_at_call 113;refine HT2.out.mono ?_;rintro en w4 ⟨rfl,hs⟩;have HS4:=yH (HS.out.step HX.out.2 hs (Nat.le_refl _));have HH4:=yH (HS4.out.head2 HC0.out.1 HC0.out.2);clear hs))
    (try simp only[Exit.inBlock,Exit.then])
    refine bodyPost_ret (ret_rtree rfl (setRow_heap w5 w.heap.size zeroN.toArray _ 74 (0,0) HA5.out.zero) HA5.out.cel rfl) rfl ?_;exact HA5.out.ret HX.out.2 HX.out.1
set_option maxHeartbeats 4000000 in
set_option maxRecDepth 4000 in
theorem kandor {w0:World} {X:Nat} {d:Int} {S S':PS} {t:Tr} (hc:OneAt w0 114 X d S t S') (he:S'.err=0) (h1:S'.is [38,38]=false) (h2:S'.is [124,124]=false):OneAt w0 65 X d S t S':=by
  intro w h;have HX:=yH h.base;have HR1:=yH (RdH.begin h);have HC:=yH hc;have HI:=yH (And.intro he (And.intro h1 h2));clear h hc he h1 h2;go_enter Tryz.func65,Tryz.ntmps65
  go_wp2_with (first
    |(go_at_call 114;refine(HC.out _ HR1.out.pr).mono ?_;rintro en w2 ⟨c2,rfl,hcel,hnew,hs⟩;have HL2:=yH (And.intro hcel (And.intro hnew hs));have HR2:=yH (HR1.out.step HX.out.2 hs);clear hcel hnew hs)
    |(refine wpList_store_row (by rfl) 74 (.tmp 5) (.tmp 9) (by rfl) w2.heap.size c2.toArray (by rfl) (by rfl) 74 zeroN.toArray (heap_alloc_new w2 _) (by rw[rtree_info];simp[HL2.out.1.1]) (by simp[HL2.out.1.1,zeroN,ofC]) (all_oneCell_toArray HL2.out.1.2) ?_;rw[World.setRow_alloc_new]))
  obtain⟨F0,hA0⟩:=AdR.make HL2.out.1 (HL2.out.2.1.base HR1.out.size) (Nat.lt_succ_self _) HR2.out.pr HR2.out.zero HR2.out.kept;have HA0:=yH hA0;obtain⟨Bx,hBx⟩:∃Bx,w2.heap.size=Bx:=⟨_,rfl⟩;rw[hBx]at HA0 ⊢;clear hA0 hBx;simp only[Act.put]
  go_loopw [6] (fun _ wr=>AdR w0 w wr X Bx c2 t F0 S') (fun _ wr=>0)
  case atStart=>exact HA0.out
  case round=>
    have hA:=hrel;have c2':=hA.pr.errc;rw[HI.out.1]at c2';have c2':wr.cell? ⟨X,2,none⟩=some (.int .i64 0):=c2';have HS:=yH hA;have HTA:=yH (qeat_any hA.pr (s:= [38,38]) (by decide));have HTO:=yH (fun W (hW:Rr w0 W X S')=>qeat_any hW (s:= [124,124]) (by decide));unfold PS.takes at HTA HTO;rw[HI.out.2.1,if_neg (by decide)]at HTA;rw[HI.out.2.2,if_neg (by decide)]at HTO;clear hA hrel
    go_wp2_with (first
      |(refine wpList_store_row (by rfl) 74 (.tmp 4) (.tmp 15) (by rfl) w.heap.size c2.toArray (by rfl) (by rfl) 74 zeroN.toArray HA4.out.zero (by rw[rtree_info];simp[HA4.out.cel.1]) (by simp[HA4.out.cel.1,zeroN,ofC]) (all_oneCell_toArray HA4.out.cel.2) ?_)
      |(refine wpList_load_row (by rfl) 74 (.tmp 5) (by rfl) Bx (by rfl) 74 c2.toArray (0,0) _ HA4.out.box Tryz.underlying74 rfl (by rw[rtree_info];simp[HA4.out.cel.1]) ?_)
      |(go_at_call 113;refine(HTO.out _ HA3.out.pr).mono ?_;rintro en w4 ⟨rfl,hs⟩;have HA4:=yH (HA3.out.step HX.out.2 hs);clear hs)
      |(go_at_call 113;(with_reducible refine HTA.out.mono ?_);rintro en w3 ⟨rfl,hs⟩;have HA3:=yH (HS.out.step HX.out.2 hs);clear hs))
    (try simp only[Exit.inBlock,Exit.then])
    refine bodyPost_ret (ret_rtree rfl (setRow_heap w4 w.heap.size zeroN.toArray c2.toArray 74 (0,0) HA4.out.zero) HA4.out.cel rfl) rfl ?_;exact HA4.out.ret HX.out.2 HX.out.1
set_option maxHeartbeats 8000000 in
set_option maxRecDepth 4000 in
theorem klist {w0:World} {X:Nat} {d:Int} {S S1 S2 S3:PS} {t1 t2:Tr} (hl0:S.lines=S) (hc1:OneAt w0 65 X d S t1 S1) (he1:S1.err=0) (hs1:S1.is [59]=true) (hn1:S1.take.lines=S2) (hee:S2.endsR=false) (hc2:OneAt w0 65 X d S2 t2 S3) (hlen:S3.ts.length<S1.ts.length) (hle:S3.ts.length≤S2.ts.length) (he3:S3.err=0) (hs3:S3.is [59]=false) (hs4:S3.is [10]=false):
    OneAt w0 28 X d S (trOf [115,101,113] [t1,t2]) S3:=by
  intro w h;have HX:=yH h.base;have HR1:=yH (RdH.begin h);have HT:=yH (qlines_any (RdH.begin h).pr);rw[hl0]at HT;have HC1:=yH hc1;have HC2:=yH hc2;have H1:=yH (And.intro he1 (And.intro hs1 (And.intro hn1 (And.intro hee (And.intro hlen hle)))));have H3:=yH (And.intro he3 (And.intro hs3 hs4));clear h hl0 hc1 he1 hs1 hn1 hee hc2 hlen hle he3 hs3 hs4;go_enter Tryz.func28,Tryz.ntmps28
  go_wp2_with (first
    |(go_at_call 64;refine(HT.out).mono ?_;rintro en w2 ⟨rfl,hs⟩;have HR2:=yH (HR1.out.step HX.out.2 hs);clear hs)
    |(go_at_call 65;refine(HC1.out _ HR2.out.pr).mono ?_;rintro en w3 ⟨c3,rfl,hcel,hnew,hs⟩;have HL3:=yH (And.intro hcel (And.intro hnew hs));have HR3:=yH (HR2.out.step HX.out.2 hs);clear hcel hnew hs)
    |(refine wpList_one elTree (by rfl) (.tmp 10) (by rfl) _ c3 rfl HL3.out.1 (by rfl) ?_))
  obtain⟨F0,hL0⟩:=LpR.first HR3.out.zero HL3.out.1 HL3.out.2.1 HR2.out.size HL3.out.2.2.2.size HR3.out.pr HR3.out.kept;have HL0:=yH hL0;clear hL0
  go_loopw [5] (fun v wr=> ∃p c css F,(v= .slice p 1 c∧LpR w0 w wr X p c css [t1] F S1)∨(v= .slice p 2 c∧LpR w0 w wr X p c css [t1,t2] F S3)) (fun _ wr=>rsLen wr X)
  case atStart=>exact⟨_,_,_,_,.inl ⟨rfl,HL0.out⟩⟩
  case round=>
    obtain⟨p,c,css,F,⟨rfl,hL⟩|⟨rfl,hL⟩⟩:=hrel
    · have c2:=hL.pr.errc
      rw[H1.out.1]at c2;have c2:wr.cell? ⟨X,2,none⟩=some (.int .i64 0):=c2;have HS:=yH hL;have HTA:=yH (qsign_any hL.pr [59]);rw[sg_is hL.pr.good (by decide),H1.out.2.1]at HTA;have HKK:=yH (is_ne hL.pr.good (by decide) H1.out.2.1);have HNX:=yH (fun W (hW:Rr w0 W X S1)=>hW.next HKK.out);have HEN:=yH (fun W (hW:Rr w0 W X S1.take.lines)=>qends_any hW);rw[H1.out.2.2.1,H1.out.2.2.2.1]at HEN;have HLI:=yH (fun W (hW:Rr w0 W X S1.take)=>qlines_any hW);rw[H1.out.2.2.1]at HLI;have HLE:=yH (show S2.ts.length≤S1.take.ts.length from by have:=(to_lines (to_take hL.pr.good).good).len;rwa [H1.out.2.2.1]at this);obtain⟨g,cs,t',rfl,hcs,ht,hcel⟩:=hL.head (Nat.le_refl 1);clear hcs ht hcel hL
      go_wp2_with (first
        |(at_builtin;refine wpList_push elTree (by rfl) (.tmp 36) (.tmp 40) (by rfl) HS8.out.2.2.row HS8.out.1 HS8.out.2.1 HL9.out.size (fun k hk=>(HL9.out.row.lt k (.inr hk)).2) (by have:=HS8.out.2.2.few;omega) (by rfl) (by rfl) HS8.out.2.2.size ?_;intro p7 c7 F7 w9 hr7 _ _ hk7;have HS9:=yH (And.intro hr7 hk7);clear hr7 hk7)
        |(refine wpList_one elTree (by rfl) (.tmp 39) (by rfl) _ c8 rfl HS8.out.1 (by rfl) ?_)
        |(go_at_call 65;refine(HC2.out _ HL9.out.pr).mono ?_;rintro en w8 ⟨c8,rfl,hcel,hnew,hs⟩;have HS8:=yH (And.intro hcel (And.intro hnew (HL9.out.step HX.out.2 hs H1.out.2.2.2.2.2)));clear hcel hnew hs)
        |(go_at_call 67;refine(HEN.out _ HL6.out.pr).mono ?_;rintro en w7 ⟨rfl,hb⟩;have HL9:=yH (HL6.out.step HX.out.2 ⟨HL6.out.pr.new hb,Kept.of_below hb⟩ (Nat.le_refl _));clear hb)
        |(go_at_call 64;refine(HLI.out _ HNN.out.pr).mono ?_;rintro en w6 ⟨rfl,hs⟩;have HL6:=yH (HNN.out.step HX.out.2 hs HLE.out);clear hs)
        |(go_at_call 66;(with_reducible refine HTA.out.mono ?_);rintro en w3 ⟨rfl,hb⟩;have HL4:=yH (HS.out.step HX.out.2 ⟨HS.out.pr.new hb,Kept.of_below hb⟩ (Nat.le_refl _));obtain⟨i,hn⟩:=HNX.out _ HL4.out.pr;have c1:=hn.cell;have f1:=hn.open_;have q1:=hn.wrap;have HNN:=yH (HL4.out.step HX.out.2 hn.step (to_take HS.out.pr.good).len);clear hn;clear hb))
      have h7:=HS9.out.1;have hP:=HS8.out.2.2.push HX.out.2 HX.out.1 h7 HS9.out.2 (by have:=HS8.out.2.2.few;simp at this ⊢;have:=HS.out.few;have:=H1.out.2.2.2.2.1;simp at*;omega)
      go_roundw
      case rel=>exact⟨p7,c7,_,F7,.inr ⟨rfl,hP⟩⟩
      case measure=>
        rw[hP.pr.len,HS.out.pr.len,H1.out.1,H3.out.1];simp only[if_true];have:=H1.out.2.2.2.2.1;omega
    · have c2:=hL.pr.errc
      rw[H3.out.1]at c2;have c2:wr.cell? ⟨X,2,none⟩=some (.int .i64 0):=c2;have HS:=yH hL;have HTA:=yH (qsign_any hL.pr [59]);rw[sg_is hL.pr.good (by decide),H3.out.2.1]at HTA;have HTB:=yH (fun W (hW:Rr w0 W X S3)=>qsign_any hW [10]);rw[sg_is hL.pr.good (by decide),H3.out.2.2]at HTB;obtain⟨g,cs,t',rfl,hcs,ht,hcel⟩:=hL.head (show 1≤ [t1,t2].length by simp);have HC0:=yH (And.intro hcs ht);clear hcs ht hcel hL
      go_wp2_with (first
        |(refine wpList_store_row (by rfl) 74 (.tmp 4) (.tmp 49) (by rfl) w.heap.size (ofC ⟨#[115,101,113]⟩ (.slice (some ⟨g,0,none⟩) 2 c)).toArray (by rfl) (by rfl) 74 zeroN.toArray HO8.out.1 (by rw[rtree_info];rfl) rfl (all_oneCell_toArray (ofC_cel _ _ _ _).2) ?_)
        |(go_at_call 68;refine(qof_any _ _ _ _ _).mono ?_;rintro en w8 ⟨rfl,hb⟩;have HO8:=yH (And.intro (HL9.out.rd.new HX.out.2 hb).zero (HL9.out.ofR HX.out.2 HX.out.1 (show [t1,t2].length=2 from rfl) [115,101,113] hb));clear hb)
        |(go_at_call 66;(with_reducible refine(HTB.out _ HL4.out.pr).mono ?_);rintro en w4 ⟨rfl,hb⟩;have HL5:=yH (HL4.out.step HX.out.2 ⟨HL4.out.pr.new hb,Kept.of_below hb⟩ (Nat.le_refl _));have HL9:=yH HL5.out;clear hb)
        |(go_at_call 66;(with_reducible refine HTA.out.mono ?_);rintro en w3 ⟨rfl,hb⟩;have HL4:=yH (HS.out.step HX.out.2 ⟨HS.out.pr.new hb,Kept.of_below hb⟩ (Nat.le_refl _));clear hb))
      (try simp only[Exit.inBlock,Exit.then])
      refine bodyPost_ret (ret_rtree rfl (setRow_heap w8 w.heap.size zeroN.toArray _ 74 (0,0) HO8.out.1) (ofC_cel _ _ _ _) rfl) rfl ?_;exact HO8.out.2.plain
set_option maxHeartbeats 4000000 in
set_option maxRecDepth 4000 in
theorem qbody_none {w0 w:World} {X:Nat} {S:PS} (d:Nat) (h:Rr w0 w X S) (h0:S.is [123]=false) (hi:S.is [40]=false):
    Calls Tryz.prog 207 #[.pointer (some ⟨X,0,none⟩),.int .i64 (d:Int)] w fun e w'=>e= .returned (.tuple #[.agg zeroN.toArray,.bool false])∧QStep w0 w w' X S:=by
  have HX:=yH h.base;have HR1:=yH (RdH.begin h);have HW:=yH (show _ from by have:=qword_any (RdH.begin h).pr (s:= [123]) (by decide) (by decide);unfold PS.takes at this;rw[h0,if_neg (by decide)]at this;exact this);have HE:=yH (show ∀W,Rr w0 W X S→_ from fun W hW=>by have:=qeat_any hW (s:= [40]) (by decide);unfold PS.takes at this;rw[hi,if_neg (by decide)]at this;exact this);clear h hi h0;go_enter Tryz.func207,Tryz.ntmps207
  go_wp2_with (first
    |(refine wpList_store_row (by rfl) 74 (.tmp 4) (.tmp 32) (by rfl) w.heap.size zeroN.toArray (by rfl) (by rfl) 74 zeroN.toArray HR2.out.zero (by rw[rtree_info];rfl) rfl (all_oneCell_toArray (ofC_cel _ _ _ _).2) ?_)
    |(go_at_call 113;refine(HE.out _ HR8.out.pr).mono ?_;rintro en w2 ⟨rfl,hs⟩;have HR2:=yH (HR8.out.step HX.out.2 hs);clear hs)
    |(go_at_call 143;refine(HW.out).mono ?_;rintro en w8 ⟨rfl,hs⟩;have HR8:=yH (HR1.out.step HX.out.2 hs);clear hs))
  (try simp only[Exit.inBlock,Exit.then])
  refine bodyPost_ret (ret_rtree2 rfl (setRow_heap w2 w.heap.size zeroN.toArray _ 74 (0,0) HR2.out.zero) (ofC_cel _ _ _ _) rfl rfl) rfl ?_;have hk:=kept_row0 w2 w.heap.size zeroN.toArray;have hx:=HX.out;exact⟨rfl,HR2.out.pr.kept hk (by omega) (fun i hi=>by omega),HR2.out.kept.trans hk fun i hi=> .inr (by omega)⟩
structure BxR (w0 w wr:World) (X Y:Nat) (cs:Array Value) (S:PS):Prop where
  box:wr.heap[Y]? =some (.cells cs 74 (0,0))
  base:w.heap.size<Y
  rd:RdH w0 w wr X S
theorem BxR.lt {w0 w wr:World} {X Y:Nat} {cs:Array Value} {S:PS} (h:BxR w0 w wr X Y cs S):Y<wr.heap.size:=(gS.1 h.box).1
theorem BxR.step {w0 w wr w1:World} {X Y:Nat} {cs:Array Value} {S S':PS} (h:BxR w0 w wr X Y cs S) (hX:X<w.heap.size) (hs:QStep w0 wr w1 X S'):BxR w0 w w1 X Y cs S':=
  ⟨hs.2.heap h.box (by have:=h.base;omega),h.base,h.rd.step hX hs⟩
theorem BxR.turn {D:Nat→Prop} {w0 w wr w1:World} {X Y:Nat} {cs:Array Value} {S:PS} (h:BxR w0 w wr X Y cs S) (hX:X<w.heap.size) (hX0:w0.heap.size≤X) (hk:Kept D wr w1) (hD:∀k,D k→Y<k):BxR w0 w w1 X Y cs S:=by
  have hb:=h.base;exact⟨hk.heap h.box (fun e=>by have:=hD _ e;omega),h.base,h.rd.pr.kept hk (fun e=>by have:=hD _ e;omega) (fun k e=>by have:=hD _ e;omega),hk.heap h.rd.zero (fun e=>by have:=hD _ e;omega),h.rd.kept.trans hk fun i hi=> .inr (by have:=hD _ hi;omega)⟩
theorem BxR.set {w0 w wr:World} {X Y:Nat} {cs:Array Value} {S:PS} (h:BxR w0 w wr X Y cs S) (hX:X<w.heap.size) (hX0:w0.heap.size≤X) (i:Nat) (u:Value):BxR w0 w (wr.setCell ⟨Y,i,none⟩ u) X Y (cs.setIfInBounds i u) S:=by
  have hb:=h.base;have hk:Kept (fun k=>k=Y) wr (wr.setCell ⟨Y,i,none⟩ u):=(Kept.refl (fun k=>k=Y) wr).setCell (p:=⟨Y,i,none⟩) (.inl rfl) _;exact⟨heap_setCell_same wr Y i cs _ u h.box,h.base,h.rd.pr.kept hk (by omega) (fun k e=>by omega),hk.heap h.rd.zero (by omega),h.rd.kept.trans hk fun i hi=> .inr (by omega)⟩
theorem nkC_set3 (o m:ByteArray) (wv pv av rv kv u:Value):(nkC o m wv pv av rv kv).toArray.setIfInBounds 3 u=(nkC o m u pv av rv kv).toArray:=by simp[nkC]
theorem nkC_set5 (o m:ByteArray) (wv pv av rv kv u:Value):(nkC o m wv pv av rv kv).toArray.setIfInBounds 5 u=(nkC o m wv pv u rv kv).toArray:=by simp[nkC]
theorem nkC_set6 (o m:ByteArray) (wv pv av rv kv u:Value):(nkC o m wv pv av rv kv).toArray.setIfInBounds 6 u=(nkC o m wv pv av u kv).toArray:=by simp[nkC]
theorem plain_small {S:PS} (hg:GoodS S):((plainT S.hd.word).getD []).length≤1048576:=by
  rcases hg.hd with ⟨e, -⟩|⟨m, -⟩
  · rw[e.word];exact Nat.zero_le _
  · rcases m.is with ⟨-, -, -,hs, -⟩|⟨-,hw, -⟩
    · generalize S.hd.word=l at hs ⊢
      match l,hs with
      | [],_=>exact Nat.zero_le _
      | [p],hs=>
        rw[plainT]
        cases bareT p with
        |true=>exact(hs.get (q:=p) (by simp)).1
        |false=>exact Nat.zero_le _
      |_::_::_,_=>exact Nat.zero_le _
    · rw[hw];exact Nat.zero_le _
theorem ownsRow_set {w:World} {B e sz:Nat} {g c n:Nat} {xs:List Value} (h:w.ownsRow B e sz (.slice (some ⟨g,0,none⟩) n c) n xs) (j:Nat) (u:Value):(w.setCell ⟨g,j,none⟩ u).ownsRow B e sz (.slice (some ⟨g,0,none⟩) n c) n (xs.set j u):=by
  obtain⟨h1,h2⟩:=h;refine⟨by rw[List.length_set];exact h1,?_⟩
  rcases h2 with ⟨hv,_⟩|⟨g',cap,cur,hv,hB,hh,hn,hm,hs,ht⟩
  · simp at hv
  · simp only[Value.slice.injEq,Option.some.injEq,Addr.mk.injEq,and_true,true_and]at hv
    obtain⟨rfl,rfl⟩:=hv;refine .inr ⟨g,c,cur.setIfInBounds j u,rfl,hB,heap_setCell_same w g j cur e u hh,hn,hm,by rw[Array.size_setIfInBounds];exact hs,?_⟩;rw[Array.toList_setIfInBounds,List.take_set,ht]
theorem flat_set {sz:Nat} :∀ {css:List (List Value)},(∀cs∈css,Cel sz cs)→∀(i:Nat) (cs:List Value) (j:Nat) (u:Value),css[i]? =some cs→j<sz→(css.set i (cs.set j u)).flatten=css.flatten.set (i*sz+j) u:=by
  intro css
  induction css with
  |nil=>intro _ i cs j u h;simp at h
  |cons a r ih=>
    intro h i cs j u hi hj;have ha:=(h a (by simp)).1
    cases i with
    |zero=>
      simp only[List.getElem?_cons_zero,Option.some.injEq]at hi;subst hi;rw[List.set_cons_zero,List.flatten_cons,List.flatten_cons,Nat.zero_mul,Nat.zero_add,List.set_append_left _ _ (by omega)]
    |succ i=>
      have:=ih (fun cs hc=>h cs (by simp[hc])) i cs j u (by simpa using hi) hj;rw[List.set_cons_succ,List.flatten_cons,List.flatten_cons,this,show(i+1)*sz+j=a.length+(i*sz+j) by rw[ha,Nat.succ_mul];omega,List.set_append_right _ _ (by omega),Nat.add_sub_cancel_left]
def PN (w:World) (cs:List Value) (n:Nd):Prop:=∃kv wv pv av rv,cs= [txt n.op,txt n.name,kv,wv,pv,av,rv]∧WsAt w wv n.words∧PatsAt w pv n.pats∧AsAt w av n.assigns∧AsAt w rv n.redirs
abbrev KidR (w1 w:World) (kv:Value) (l:List Int):Prop:=RowG w1 w 3 1 (fun _ cs x=>cs= [.int .i64 x]) w1.heap.size kv (l.map fun x=> [.int .i64 x]) l (fun _=>False)
structure LaidR (w1 w:World) (v:Value) (css:List (List Value)) (ns:List Nd):Prop where
  below:Below w1.heap.size w1 w
  row:RowG w1 w 41 7 (fun _ cs n=>PN w1 cs n) w1.heap.size v css ns (fun _=>False)
  kids:∀(k:Nat) (cs:List Value) (n:Nd) (kv:Value),css[k]? =some cs→ns[k]? =some n→cs[2]? =some kv→KidR w1 w kv n.kids
  apart:∀(i j:Nat) (cs ds:List Value) (a b:Value) (g:Nat),css[i]? =some cs→css[j]? =some ds→cs[2]? =some a→ds[2]? =some b→a.ownBlock=some g→b.ownBlock=some g→i=j
  off:∀(i:Nat) (cs:List Value) (a:Value) (g:Nat),css[i]? =some cs→cs[2]? =some a→a.ownBlock=some g→v.ownBlock≠some g
theorem LaidR.nil (w:World):LaidR w w (.slice none 0 0) [] [] where
  below:=Below.refl _ _
  row:=RowG.nil _ _ _ _ _ _
  kids:=fun _ _ _ _ h=>by simp at h
  apart:=fun _ _ _ _ _ _ _ h=>by simp at h
  off:=fun _ _ _ _ h=>by simp at h
section
variable {w1 w : World} {v : Value} {css : List (List Value)} {ns : List Nd}
theorem LaidR.size (h:LaidR w1 w v css ns):w1.heap.size≤w.heap.size:=h.below.size
theorem LaidR.kids_lt (h:LaidR w1 w v css ns) {i:Nat} {cs:List Value} {a:Value} {g:Nat} (h1:css[i]? =some cs) (h2:cs[2]? =some a) (h3:a.ownBlock=some g):w1.heap.size≤g∧g<w.heap.size:=by
  obtain⟨n,hn⟩:∃n,ns[i]? =some n:=⟨_,List.getElem?_eq_getElem (by rw[←h.row.len];exact(List.getElem?_eq_some_iff.1 h1).1)⟩;exact(h.kids i cs n a h1 hn h2).lt g (.inr h3)
theorem LaidR.new {w':World} (h:LaidR w1 w v css ns) (hb:Below w.heap.size w w'):LaidR w1 w' v css ns where
  below:=h.below.trans (hb.mono h.size)
  row:=h.row.kept (Kept.of_below (D:=fun _=>False) hb) fun _ _ h=>h
  kids:=fun k cs n kv h1 h2 h3=>(h.kids k cs n kv h1 h2 h3).kept (Kept.of_below (D:=fun _=>False) hb) fun _ _ h=>h
  apart:=h.apart
  off:=h.off
theorem LaidR.push (h:LaidR w1 w v css ns) {w':World} {v':Value} {cs:List Value} {n:Nd} {F':Nat→Prop} (hr:RowG w1 w' 41 7 (fun _ cs n=>PN w1 cs n) w1.heap.size v' (css++ [cs]) (ns++ [n]) F') (hF:∀k,F' k→False)
    (hk:Kept (fun k=>v.ownBlock=some k) w w') (hat:v'.ownBlock=v.ownBlock∨∀k,v'.ownBlock=some k→w.heap.size≤k) (h2:cs[2]? =some (.slice none 0 0)) (h0:n.kids= []):LaidR w1 w' v' (css++ [cs]) (ns++ [n]):=by
  have hnew:∀(i:Nat) (ds:List Value) (a:Value) (g:Nat),(css++ [cs])[i]? =some ds→ds[2]? =some a→a.ownBlock=some g→css[i]? =some ds:=fun i ds a g e1 e2 e3=>by
    rcases Nat.lt_or_ge i css.length with hl|hl
    · rwa [List.getElem?_append_left hl]at e1
    · rw[List.getElem?_append_right hl]at e1
      obtain⟨j1,j2⟩:=List.getElem?_eq_some_iff.1 e1;simp only[List.length_singleton]at j1;simp only[List.getElem_singleton]at j2;subst j2;rw[h2]at e2
      cases e2
      cases e3
  refine⟨below_kept h.below hk (fun k e=>(h.row.lt k (.inr e)).1) h.size,hr.nofar hF,?_,?_,?_⟩
  · intro k ds m kv e1 e2 e3
    rcases Nat.lt_or_ge k css.length with hl|hl
    · rw[List.getElem?_append_left hl]at e1
      rw[List.getElem?_append_left (by rw[←h.row.len];exact hl)]at e2;exact(h.kids k ds m kv e1 e2 e3).kept hk fun i hi=>hi.elim (fun h=>h.elim) fun hi=>h.off k ds kv i e1 e3 hi
    · rw[List.getElem?_append_right hl]at e1
      rw[List.getElem?_append_right (by rw[←h.row.len];exact hl)]at e2;obtain⟨j1,j2⟩:=List.getElem?_eq_some_iff.1 e1;obtain⟨i1,i2⟩:=List.getElem?_eq_some_iff.1 e2;simp only[List.length_singleton]at j1 i1;simp only[List.getElem_singleton]at j2 i2;subst j2 i2;rw[h2]at e3
      cases e3
      rw[h0];exact RowG.nil _ _ _ _ _ _
  · intro i j ds es a b g e1 e2 e3 e4 e5 e6
    exact h.apart i j ds es a b g (hnew i ds a g e1 e3 e5) (hnew j es b g e2 e4 e6) e3 e4 e5 e6
  · intro i ds a g e1 e2 e3 e4
    have e1':=hnew i ds a g e1 e2 e3
    rcases hat with e5|e5
    · exact h.off i ds a g e1' e2 e3 (e5▸e4)
    · have:=e5 g e4
      have:=(h.kids_lt e1' e2 e3).2;omega
end
theorem ownsRow_max {w:World} {B e sz:Nat} {v:Value} {n:Nat} {xs:List Value} (h:w.ownsRow B e sz v n xs):n≤maxLen:=by
  rcases h.2 with ⟨_,h0⟩|⟨_,cap,_,_,_,_,hn,hm,_⟩
  · omega
  · omega
theorem LaidR.ns {w1 w:World} {v:Value} {css:List (List Value)} {ns:List Nd} (h:LaidR w1 w v css ns):NsAt w v ns:=by
  obtain⟨⟨p,c,hv,h1⟩,h2⟩:=h.row.slat.now h.below;refine⟨⟨p,c,hv,fun k n hn=> ?_⟩,ownsRow_max h.row.own⟩;obtain⟨cs,hcs⟩:∃cs,css[k]? =some cs:=⟨_,List.getElem?_eq_getElem (by rw[h.row.len];exact(List.getElem?_eq_some_iff.1 hn).1)⟩;obtain⟨kv,wv,pv,av,rv,e,a1,a2,a3,a4⟩:=h2 k cs n hcs hn;have h3:=h.kids k cs n kv hcs hn (by rw[e];rfl);refine⟨cs,h1 k cs hcs,⟨⟨kv,wv,pv,av,rv,e,?_,a1.below h.below,a2.below h.below,a3.below h.below,a4.below h.below⟩⟩⟩;obtain⟨⟨p',c',hv',h4⟩,h5⟩:=h3.slat.now h.below;refine⟨⟨p',c',hv',fun j x hx=>⟨_,h4 j _ (by rw[List.getElem?_map,hx];rfl),rfl⟩⟩,ownsRow_max h3.own⟩
theorem NdC.later {w w':World} {n:Nd} {cs:List Value} (h:NdC w n cs) (hb:Below w.heap.size w w'):NdC w' n cs:=by
  obtain⟨h0,wv,pv,av,rv,e,h1,h2,h3,h4⟩:=h;exact⟨h0,wv,pv,av,rv,e,h1.below hb,h2.below hb,h3.below hb,h4.below hb⟩
theorem TrC.later {w w':World} {cs:List Value} {t:Tr} (h:TrC w cs t) (hb:Below w.heap.size w w'):TrC w' cs t:=by
  induction h with
  |mk n kids cs kp kc css h1 h2 h3 h4 _ ih=>exact .mk n kids cs kp kc css (h1.later hb) h2 h3 (fun k c hk=>(h4 k c hk).below hb) ih
theorem elNd:ElT 22 41 7 152:=elT_of (z:= .agg #[.string ⟨#[]⟩,.string ⟨#[]⟩,.slice none 0 0,.slice none 0 0,.slice none 0 0,.slice none 0 0,.slice none 0 0]) Tryz.underlying22 (by kernel_rfl) rfl (by decide) (by decide)
theorem elInt:ElT 35 3 1 8:=elT_of (z:= .int .i64 0) Tryz.underlying35 (by kernel_rfl) rfl (by decide) (by decide)
theorem nd7_info:(Tryz.prog.info? 41).map (·.size)=some 7:=by kernel_rfl
theorem wsAt_shape {w:World} {v:Value} {l:List (List Pt)} (h:WsAt w v l):∃p n c,v= .slice p n c:=by
  obtain⟨p,c,rfl, -⟩:=h.is;exact⟨_,_,_,rfl⟩
theorem patsAt_shape {w:World} {v:Value} {l:List (List (List Pt))} (h:PatsAt w v l):∃p n c,v= .slice p n c:=by
  obtain⟨p,c,rfl, -⟩:=h.is;exact⟨_,_,_,rfl⟩
theorem asAt_shape {w:World} {v:Value} {l:List (List UInt8×List Pt)} (h:AsAt w v l):∃p n c,v= .slice p n c:=by
  obtain⟨p,c,rfl, -⟩:=h.is;exact⟨_,_,_,rfl⟩
theorem trC_cel {w:World} {c:List Value} {t:Tr} (h:TrC w c t):Cel 8 c:=by
  cases h with
  |mk n kids cs kp kc css h1 h2 h3 h4 h5=>
    obtain⟨_,wv,pv,av,rv,rfl,hw,hp,ha,hr⟩:=h1;obtain⟨_,_,_,rfl⟩:=wsAt_shape hw;obtain⟨_,_,_,rfl⟩:=patsAt_shape hp;obtain⟨_,_,_,rfl⟩:=asAt_shape ha;obtain⟨_,_,_,rfl⟩:=asAt_shape hr;refine⟨rfl,fun v hv=> ?_⟩;simp only[txt,List.cons_append,List.nil_append,List.mem_cons,List.not_mem_nil,or_false]at hv
    rcases hv with rfl|rfl|rfl|rfl|rfl|rfl|rfl|rfl<;>rfl
theorem ownsRow_free {w:World} {B e sz g n c:Nat} {xs:List Value} (h:w.ownsRow B e sz (.slice (some ⟨g,0,none⟩) n c) n xs) (j:Nat):w.frozen? ⟨g,j,none⟩=false:=by
  rcases h.2 with ⟨hv,_⟩|⟨g',cap,cur,hv,_,hh,_⟩
  · simp at hv
  · simp only[Value.slice.injEq,Option.some.injEq,Addr.mk.injEq,and_true,true_and]at hv
    obtain⟨rfl,rfl⟩:=hv;exact frozen_plain hh j
theorem laidL_go {a:Nat} {t:Tr} {r:List Tr} {l:List Nd} :laidL a (t::r) l=laidL a r (laidM t (l.modify a fun n=> { n with kids:=n.kids++ [(l.length:Int)] })):=by rw[laidL]
theorem sizeT_pos (t:Tr):1≤sizeT t:=by cases t;rw[sizeT];omega
theorem sizeL_len:∀l:List Tr,l.length≤sizeL l
  | []=>Nat.le_refl _
  |t::r=>by
    have:=sizeL_len r;have:=sizeT_pos t;rw[sizeL,List.length_cons];omega
theorem sizeL_get:∀ {l:List Tr} {i:Nat} {t:Tr},l[i]? =some t→sizeT t≤sizeL l
  | [],i,t,h=>by simp at h
  |a::r,0,t,h=>by
    simp only[List.getElem?_cons_zero,Option.some.injEq]at h;subst h;rw[sizeL];omega
  |a::r,i+1,t,h=>by
    have:=sizeL_get (l:=r) (i:=i) (t:=t) (by simpa using h);rw[sizeL];omega
mutual
theorem laidM_get:∀(t:Tr) (l:List Nd) (k:Nat),k<l.length→(laidM t l)[k]? =l[k]?
  | .mk n kids,l,k,h=>by rw[laidM,laidL_get l.length kids (l++ [n]) k (by simp;omega) (by omega),List.getElem?_append_left h]
theorem laidL_get:∀(a:Nat) (ts:List Tr) (l:List Nd) (k:Nat),k<l.length→k≠a→(laidL a ts l)[k]? =l[k]?
  |a,[],l,k,h,hk=>by rw[laidL]
  |a,t::r,l,k,h,hk=>by
    have h1:(l.modify a fun n=> { n with kids:=n.kids++ [(l.length:Int)] }).length=l.length:=List.length_modify ..;rw[laidL_go,laidL_get a r _ k (by rw[laidM_length,h1];omega) hk,laidM_get t _ k (by rw[h1];exact h)];have hne:a≠k:=fun e=>hk e.symm;simp[hne]
end
end Go.Proofs.YtcpmjkefbjbhpaaGreatDoor
