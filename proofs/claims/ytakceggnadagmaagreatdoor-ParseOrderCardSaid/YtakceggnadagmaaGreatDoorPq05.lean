/-
  Proved: contracts of functions, plain facts. Conditions: as each says.
-/
import Derived.Test.YtakceggnadagmaaGreatDoorPq04
namespace Go.Proofs.YtakceggnadagmaaGreatDoor
open Go Go.RowKit GlyphMath LexMath TreeMath ParseMath
theorem AdO.make {w0 w w2:World} {X B:Nat} {c:List Value} {t:Tr} {S:PS} (hcel:Cel 8 c) (hnew:NewAt w0 w2 B fun W=>TrC W c t) (hB:w.heap.size<B) (hpr:Pr w0 w2 X S) (hz:w2.heap[w.heap.size]? =some ZN) (hk:Kept (fun k=>k=X) w w2):
    ∃F,AdO w0 w (w2.alloc (.cells c.toArray 56)) X w2.heap.size c t F S:=by
  obtain⟨F,f1,f2⟩:=hnew;have hzl:=(gS.1 hz).1;exact⟨F,heap_alloc_new w2 _,hcel,f2.same fun k hk=>Below.heap_alloc _ _ _ (f1 k hk).2,fun k hk=>⟨by have:=(f1 k hk).1;omega,by have:=(f1 k hk).2;rw[World.size_alloc];omega,by have:=(f1 k hk).2;omega⟩,by omega,hpr.new (below_new _ _),(Below.heap_alloc _ _ _ hzl).trans hz,hk.on (Kept.of_below (below_new _ _))⟩
theorem AdO.ret {w0 w w4:World} {X Bx:Nat} {c:List Value} {n:Tr} {F:Nat→Prop} {S:PS} (h:AdO w0 w w4 X Bx c n F S) (hX:X<w.heap.size) (hX0:w0.heap.size≤X):TrEnd w0 w (w4.setRow w.heap.size c.toArray) (.returned (.agg c.toArray)) X (n,S):=by
  have hk:=kept_row0 w4 w.heap.size c.toArray;exact⟨c,rfl,h.cel,⟨F,fun k hk'=>⟨Nat.le_of_lt (h.far k hk').1,by rw[setRow_size];exact(h.far k hk').2.1⟩,h.tree.same fun k hk'=>hk.block k (h.far k hk').2.1 (by have:=(h.far k hk').1;omega)⟩,h.pr.kept hk (by omega) (fun i hi=>by omega),h.kept.trans hk fun i hi=> .inr (by omega)⟩
def TrEndR (w0 w w':World) (e:Ending) (X:Nat) (r:Tr×PS):Prop:=∃c,e= .returned (.agg c.toArray)∧(Cel 8 c∧c[6]? =some (.slice none 0 0)∧r.1.node.redirs= [])∧NewAt w0 w' w.heap.size (fun W=>TrC W c r.1)∧PStep w0 w w' X r.2
theorem AdO.retR {w0 w w4:World} {X Bx:Nat} {c:List Value} {n:Tr} {F:Nat→Prop} {S:PS} (h:AdO w0 w w4 X Bx c n F S) (hX:X<w.heap.size) (hX0:w0.heap.size≤X) (h6:c[6]? =some (.slice none 0 0)) (hr:n.node.redirs= []):TrEndR w0 w (w4.setRow w.heap.size c.toArray) (.returned (.agg c.toArray)) X (n,S):=by
  have hk:=kept_row0 w4 w.heap.size c.toArray;exact⟨c,rfl,⟨h.cel,h6,hr⟩,⟨F,fun k hk'=>⟨Nat.le_of_lt (h.far k hk').1,by rw[setRow_size];exact(h.far k hk').2.1⟩,h.tree.same fun k hk'=>hk.block k (h.far k hk').2.1 (by have:=(h.far k hk').1;omega)⟩,h.pr.kept hk (by omega) (fun i hi=>by omega),h.kept.trans hk fun i hi=> .inr (by omega)⟩
theorem ofC_six (o:ByteArray) (v:Value):(ofC o v)[6]? =some (.slice none 0 0):=rfl
theorem wrap1 {d:Nat} (h:d≤100):IntKind.i64.wrap ((d:Int)+1)=((d+1:Nat):Int):=by
  rw[show (d:Int)+1=((d+1:Nat):Int) by omega];exact IntWalk.i64_in _ ⟨by omega,by omega⟩
theorem kept_alloc2 {w w1:World} {z:Obj} (hz:w1.heap[w.heap.size]? =some z) (o:Obj):(w1.alloc o).heap[w.heap.size]? =some z:=(Below.heap_alloc _ _ _ (gS.1 hz).1).trans hz
theorem enclosed_made {w0 w w1 w2 w3 w4:World} {X:Nat} {S1 S2:PS} {c1:List Value} {t:Tr} {op:List UInt8} {o:ByteArray} (hX:X<w.heap.size) (hs1:PStep w0 (w.alloc ZN) w1 X S1) (hz1:w1.heap[w.heap.size]? =some ZN) (hcel:Cel 8 c1) (hnew:NewAt w0 w2 w1.heap.size fun W=>TrC W c1 t) (hs2:PStep w0 w1 w2 X S2)
    (h3:w3=w2.alloc (.cells c1.toArray 56)) (h4:Below w3.heap.size w3 w4) (ho:T op=o):
    ∃F,AdO w0 w (w4.alloc (.cells (ofC o (.slice (some ⟨w2.heap.size,0,none⟩) 1 1)).toArray 56)) X w4.heap.size (ofC o (.slice (some ⟨w2.heap.size,0,none⟩) 1 1)) (trOf op [t]) F S2:=by
  have hl1:=(gS.1 hz1).1;have hz2:=hs2.2.heap hz1 (by omega);have hsz:=hs2.2.size;obtain⟨F,hr, -⟩:=RowG.one (w0:=w0) (e:=56) (B:=w.heap.size+1) hcel hnew hl1 (by omega);have ht:=of_tree hr (by simp[maxLen]) op;rw[←h3,ho]at ht;have hz3:w3.heap[w.heap.size]? =some ZN:=(by rw[h3];exact kept_alloc2 hz2 _);have hk:Kept (fun k=>k=X) w w4:=((((Kept.of_below (below_new w ZN)).on hs1.2).on hs2.2).on (Kept.of_below (by rw[h3];exact below_new w2 _))).on (Kept.of_below h4);have hb3:Below w2.heap.size w2 w3:=(by rw[h3];exact below_new w2 _);exact AdO.make (ofC_cel _ _ _ _) (ht.kept (D:=fun _=>False) (Kept.of_below h4) (fun _ _ _ h=>h)) (by omega) ((hs2.1.new hb3).new h4) ((h4.block _ (gS.1 hz3).1).trans hz3) hk
theorem AdO.two {w0 w w4 w5 w6:World} {X Bx:Nat} {c c5:List Value} {n t:Tr} {F:Nat→Prop} {S:PS} (h:AdO w0 w w5 X Bx c n F S) (hX:X<w.heap.size) (hX0:w0.heap.size≤X) (hc5:Cel 8 c5) (h5:NewAt w0 w5 w4.heap.size fun W=>TrC W c5 t) (hw4:w4.heap.size≤w5.heap.size) (hB4:Bx<w4.heap.size) {op:List UInt8} {o:ByteArray}
    (h6:Below (w5.alloc (.cells (c++c5).toArray 56)).heap.size (w5.alloc (.cells (c++c5).toArray 56)) w6) (ho:T op=o):
    TrEndR w0 w (w6.setRow w.heap.size (ofC o (.slice (some ⟨w5.heap.size,0,none⟩) 2 2)).toArray) (.returned (.agg (ofC o (.slice (some ⟨w5.heap.size,0,none⟩) 2 2)).toArray)) X (trOf op [n,t],S):=by
  obtain⟨F5,f1,f2⟩:=h5;have hbase:=h.base;have hb:∀k,F k∨F5 k→w.heap.size+1≤k∧k<w5.heap.size:=fun k hk=>hk.elim (fun hk=>⟨(h.far k hk).1,(h.far k hk).2.1⟩) fun hk=>⟨by have:=(f1 k hk).1;omega,(f1 k hk).2⟩;have hr:Kids w0 _ _ _ _ _ _:=RowG.two (e:=56) (B:=w.heap.size+1) h.cel hc5 h.tree f2 hb (by omega);have ht:=of_tree hr (by simp[maxLen]) op;rw[ho]at ht;have hx:Kept (fun _=>False) w5 w6:=(Kept.of_below (below_new _ _)).on (Kept.of_below h6);have hk:=kept_row0 w6 w.heap.size (ofC o (.slice (some ⟨w5.heap.size,0,none⟩) 2 2)).toArray;exact⟨_,rfl,⟨ofC_cel _ _ _ _,ofC_six _ _,rfl⟩,((ht.kept (D:=fun _=>False) (Kept.of_below h6) (fun _ _ _ h=>h)).kept hk (fun k h1 h2=>by omega)).base (by omega),(h.pr.kept hx (fun h=>h) (fun _ h=>h.elim)).kept hk (by omega) (fun k e=>by omega),(h.kept.trans hx (fun _ h=>h.elim)).trans hk fun i hi=> .inr (by omega)⟩
set_option maxHeartbeats 2000000 in
set_option maxRecDepth 4000 in
theorem penclosed_any {w0:World} {cmd:Do} {d:Nat} (hd:d≤100) (hc:CallDo w0 44 (listM cmd) (d+1)) (op cl:List UInt8) (w:World) (X:Nat) (S:PS) (h:Pr w0 w X S):
    Calls Tryz.prog 184 #[.pointer (some ⟨X,0,none⟩),.string (T op),.string (T cl),.int .i64 (d:Int)] w fun e w'=>TrEndR w0 w w' e X (enclosedM cmd op cl S):=by
  have HX:=yH h.base;have HB:=yH (below_new w);have HT:=yH (ptake_any (h.new (below_new w ZN)));have HC:=yH hc;have HN:=yH (fun W S' (hW:Pr w0 W X S')=>pneed_any hW cl);have HM:=yH (show enclosedM cmd op cl S=(trOf op [(listM cmd S.take).1],(listM cmd S.take).2.need cl)from rfl);obtain⟨o,ho⟩:∃o,T op=o:=⟨_,rfl⟩;have HO:=yH ho;obtain⟨k,hk⟩:∃k,T cl=k:=⟨_,rfl⟩;rw[ho,hk];rw[hk]at HN;have hwr:=wrap1 hd;obtain⟨D,hD⟩:∃D:Int,(d:Int)=D:=⟨_,rfl⟩;rw[hD]at hwr ⊢;obtain⟨D1,hD1⟩:∃D:Int,((d+1:Nat):Int)=D:=⟨_,rfl⟩;have HD1:=yH hD1;rw[hD1]at hwr;clear h hc ho hk hD hD1 hd;go_enter Tryz.func184,Tryz.ntmps184
  go_wp2_with (first
    |(go_at_call 105;refine HT.out.mono ?_;rintro en w1 ⟨p,k1,rfl, -,hs⟩;have HS1:=yH (And.intro hs (hs.2.heap (heap_alloc_new w ZN) (by have:=HX.out;omega)));clear hs)
    |(go_at_call 44;rw[←HD1.out];refine(HC.out w1 X S.take HS1.out.1.1).mono ?_;rintro en w2 ⟨c1,rfl,hcel,hnew,hs⟩;have HS2:=yH (And.intro hcel (And.intro hnew (And.intro hs (hs.2.heap HS1.out.2 (by have:=HX.out;omega)))));clear hcel hnew hs)
    |(refine wpList_one elNode (by rfl) (.tmp 16) (by rfl) _ c1 rfl HS2.out.1 (by rfl) ?_;obtain⟨w3,hw3⟩:∃w3,w3=w2.alloc (.cells c1.toArray 56):=⟨_,rfl⟩;rw[←hw3];have HW3:=yH hw3;clear hw3)
    |(go_at_call 106;refine(of_any _ _ _ _ _).mono ?_;rintro en w4 ⟨rfl,hb4⟩;have HB4:=yH hb4;clear hb4)
    |(refine wpList_store_row (by rfl) 56 (.tmp 9) (.tmp 18) (by rfl) w4.heap.size (ofC o (.slice (some ⟨w2.heap.size,0,none⟩) 1 1)).toArray (by rfl) (by rfl) 56 zeroN.toArray (heap_alloc_new w4 _) (by rw[node_info];rfl) rfl (all_oneCell_toArray (ofC_cel _ _ _ _).2) ?_;rw[World.setRow_alloc_new];obtain⟨F,hA⟩:=enclosed_made HX.out.2 HS1.out.1 HS1.out.2 HS2.out.1 HS2.out.2.1 HS2.out.2.2.1 HW3.out HB4.out HO.out;obtain⟨w5,hw5⟩:∃w5,w5=w4.alloc (.cells (ofC o (.slice (some ⟨w2.heap.size,0,none⟩) 1 1)).toArray 56):=⟨_,rfl⟩;rw[←hw5]at hA ⊢;have HA:=yH hA;clear hA hw5)
    |(go_at_call 182;refine(HN.out _ _ HA.out.pr).mono ?_;rintro en w6 ⟨rfl,hs⟩;have HA6:=yH (HA.out.step HX.out.2 hs);clear hs)
    |(refine wpList_load_row (by rfl) 56 (.tmp 9) (by rfl) w4.heap.size (by rfl) 56 (ofC o (.slice (some ⟨w2.heap.size,0,none⟩) 1 1)).toArray (0,0) _ HA6.out.box Tryz.underlying56 rfl (by rw[node_info];rfl) ?_)
    |(refine wpList_store_row (by rfl) 56 (.tmp 8) (.tmp 22) (by rfl) w.heap.size (ofC o (.slice (some ⟨w2.heap.size,0,none⟩) 1 1)).toArray (by rfl) (by rfl) 56 zeroN.toArray HA6.out.zero (by rw[node_info];rfl) rfl (all_oneCell_toArray (ofC_cel _ _ _ _).2) ?_))
  (try simp only[Exit.inBlock,Exit.then])
  refine bodyPost_ret (ret_tree rfl (setRow_heap w6 w.heap.size zeroN.toArray _ 56 (0,0) HA6.out.zero) (ofC_cel _ _ _ _) rfl) rfl ?_;rw[HM.out];exact HA6.out.retR HX.out.2 HX.out.1 (ofC_six _ _) rfl
set_option maxHeartbeats 2000000 in
set_option maxRecDepth 4000 in
theorem pbody_any {w0:World} {cmd:Do} {d:Nat} (hd:d≤100) (hc:CallDo w0 44 (listM cmd) (d+1)):CallDo w0 195 (bodyM cmd) d:=by
  intro w X S h;have HX:=yH h.base;have HT:=yH (pneed_any (h.new (below_new w ZN)) [100,111]);have HC:=yH hc;have HN:=yH (fun W S' (hW:Pr w0 W X S')=>pneed_any hW [100,111,110,101]);have HM:=yH (show bodyM cmd S=((listM cmd (S.need [100,111])).1,(listM cmd (S.need [100,111])).2.need [100,111,110,101])from rfl);have hwr:=wrap1 hd;obtain⟨D,hD⟩:∃D:Int,(d:Int)=D:=⟨_,rfl⟩;rw[hD]at hwr ⊢;obtain⟨D1,hD1⟩:∃D:Int,((d+1:Nat):Int)=D:=⟨_,rfl⟩;have HD1:=yH hD1;rw[hD1]at hwr;clear h hc hD hD1 hd;go_enter Tryz.func195,Tryz.ntmps195
  go_wp2_with (first
    |(go_at_call 44;rw[←HD1.out];refine(HC.out w1 X _ HS1.out.1.1).mono ?_;rintro en w2 ⟨c1,rfl,hcel,hnew,hs⟩;have HS2:=yH (And.intro hcel (And.intro hnew (And.intro hs (hs.2.heap HS1.out.2 (by have:=HX.out;omega)))));clear hcel hnew hs)
    |(refine wpList_store_row (by rfl) 56 (.tmp 5) (.tmp 11) (by rfl) w2.heap.size c1.toArray (by rfl) (by rfl) 56 zeroN.toArray (heap_alloc_new w2 _) (by rw[node_info];simp[HS2.out.1.1]) (by simp[HS2.out.1.1,zeroN,ofC]) (all_oneCell_toArray HS2.out.1.2) ?_;rw[World.setRow_alloc_new];obtain⟨F,hA⟩:=AdO.make (w:=w) HS2.out.1 HS2.out.2.1 (gS.1 HS1.out.2).1 HS2.out.2.2.1.1 HS2.out.2.2.2 (((Kept.of_below (below_new w ZN)).on HS1.out.1.2).on HS2.out.2.2.1.2);obtain⟨w5,hw5⟩:∃w5,w5=w2.alloc (.cells c1.toArray 56):=⟨_,rfl⟩;rw[←hw5]at hA ⊢;have HA:=yH hA;clear hA hw5)
    |(go_at_call 182;refine(HN.out _ _ HA.out.pr).mono ?_;rintro en w6 ⟨rfl,hs⟩;have HA6:=yH (HA.out.step HX.out.2 hs);clear hs)
    |(go_at_call 182;refine HT.out.mono ?_;rintro en w1 ⟨rfl,hs⟩;have HS1:=yH (And.intro hs (hs.2.heap (heap_alloc_new w ZN) (by have:=HX.out;omega)));clear hs)
    |(refine wpList_load_row (by rfl) 56 (.tmp 5) (by rfl) w2.heap.size (by rfl) 56 c1.toArray (0,0) _ HA6.out.box Tryz.underlying56 rfl (by rw[node_info];simp[HS2.out.1.1]) ?_)
    |(refine wpList_store_row (by rfl) 56 (.tmp 4) (.tmp 14) (by rfl) w.heap.size c1.toArray (by rfl) (by rfl) 56 zeroN.toArray HA6.out.zero (by rw[node_info];simp[HS2.out.1.1]) (by simp[HS2.out.1.1,zeroN,ofC]) (all_oneCell_toArray HS2.out.1.2) ?_))
  (try simp only[Exit.inBlock,Exit.then])
  refine bodyPost_ret (ret_tree rfl (setRow_heap w6 w.heap.size zeroN.toArray _ 56 (0,0) HA6.out.zero) HS2.out.1 rfl) rfl ?_;rw[HM.out];exact HA6.out.ret HX.out.2 HX.out.1
set_option maxHeartbeats 2000000 in
set_option maxRecDepth 4000 in
theorem ploop_any {w0:World} {cmd:Do} {d:Nat} (hd:d≤100) (hc:CallDo w0 44 (listM cmd) (d+1)) (op:List UInt8) (w:World) (X:Nat) (S:PS) (h:Pr w0 w X S):
    Calls Tryz.prog 186 #[.pointer (some ⟨X,0,none⟩),.string (T op),.int .i64 (d:Int)] w fun e w'=>TrEndR w0 w w' e X (loopM cmd op S):=by
  have HX:=yH h.base;have HT:=yH (ptake_any (h.new (below_new w ZN)));have HC:=yH hc;have HBD:=yH (pbody_any hd hc);have HM:=yH (show loopM cmd op S=(trOf op [(listM cmd S.take).1,(bodyM cmd (listM cmd S.take).2).1],(bodyM cmd (listM cmd S.take).2).2)from rfl);obtain⟨o,ho⟩:∃o,T op=o:=⟨_,rfl⟩;have HO:=yH ho;rw[ho];have hwr:=wrap1 hd;obtain⟨D,hD⟩:∃D:Int,(d:Int)=D:=⟨_,rfl⟩;have HD:=yH hD;rw[hD]at hwr ⊢;obtain⟨D1,hD1⟩:∃D:Int,((d+1:Nat):Int)=D:=⟨_,rfl⟩;have HD1:=yH hD1;rw[hD1]at hwr;clear h hc ho hD hD1 hd;go_enter Tryz.func186,Tryz.ntmps186
  go_wp2_with (first
    |(go_at_call 105;refine HT.out.mono ?_;rintro en w1 ⟨p,k1,rfl, -,hs⟩;have HS1:=yH (And.intro hs (hs.2.heap (heap_alloc_new w ZN) (by have:=HX.out;omega)));clear hs)
    |(go_at_call 44;rw[←HD1.out];refine(HC.out w1 X S.take HS1.out.1.1).mono ?_;rintro en w2 ⟨c1,rfl,hcel,hnew,hs⟩;have HS2:=yH (And.intro hcel (And.intro hnew (And.intro hs (hs.2.heap HS1.out.2 (by have:=HX.out;omega)))));clear hcel hnew hs)
    |(refine wpList_store_row (by rfl) 56 (.tmp 7) (.tmp 13) (by rfl) w2.heap.size c1.toArray (by rfl) (by rfl) 56 zeroN.toArray (heap_alloc_new w2 _) (by rw[node_info];simp[HS2.out.1.1]) (by simp[HS2.out.1.1,zeroN,ofC]) (all_oneCell_toArray HS2.out.1.2) ?_;rw[World.setRow_alloc_new];obtain⟨F,hA⟩:=AdO.make (w:=w) HS2.out.1 HS2.out.2.1 (gS.1 HS1.out.2).1 HS2.out.2.2.1.1 HS2.out.2.2.2 (((Kept.of_below (below_new w ZN)).on HS1.out.1.2).on HS2.out.2.2.1.2);obtain⟨w5,hw5⟩:∃w5,w5=w2.alloc (.cells c1.toArray 56):=⟨_,rfl⟩;rw[←hw5]at hA ⊢;have HA:=yH hA;clear hA hw5))
  simp only[Act.put];refine regionL (S:=(fun W=>W.heap[w2.heap.size]? =some (.cells c1.toArray 56 (0,0)))) (L:=7) (by kernel_rfl) ?_ (fun hHeld=> ?_)
  · exact HA.out.box
  refine tkL 0 14 rfl rfl ?_ ?_ ?_;rotate_left
  · intro _ _;go_simp<;>(with_reducible rfl)
  simp only[pS];refine takeL (i:=1) (k:=15) (v:= .agg c1.toArray) rfl (by kernel_rfl) (by kernel_rfl) (by kernel_rfl) (by kernel_rfl) (fun _ _ _ h=>h) (by kernel_rfl) (by kernel_rfl) (by kernel_rfl) (by rfl) ?_ (by assumption) ?_
  · intro w hSw;exact exec_load_row _ 56 (.tmp 7) rfl w2.heap.size rfl 56 c1.toArray (0,0) _ hSw Tryz.underlying56 rfl (by rw[node_info];simp[HA.out.cel.1])
  simp only[pS];refine tkL 2 16 rfl rfl ?_ ?_ ?_;rotate_left
  · intro _ _;go_simp<;>(with_reducible rfl)
  simp only[pS];refine tkL 3 17 rfl rfl ?_ ?_ ?_;rotate_left
  · intro _ _;go_simp<;>(with_reducible rfl)
  simp only[pS];refine nxL 4 rfl (fun K hK=> ?_);go_simp
  go_wp2_with (go_at_call 195;rw[←HD.out];refine(HBD.out _ X (listM cmd S.take).2 (HA.out.pr.kept (D:=fun _=>False) (Kept.of_below (below_drewA w5)) (fun h=>h) (fun _ h=>h.elim))).mono ?_;rintro en w7 ⟨c7,rfl,hcel,hnew,hs⟩;rw[HD.out];have HA7:=yH ((HA.out.new HX.out.2 (below_drewA w5)).step HX.out.2 hs);have HS7:=yH (And.intro hcel (And.intro hnew hs.2.size));clear hcel hnew hs)
  refine hK.out _ _ ?_ ?_
  · exact .inr HA7.out.box
  clear hK K;refine nxL 5 rfl (fun K hK=> ?_);refine wp_two elNode (.tmp 15) (.tmp 18) rfl _ _ c1 c7 rfl rfl HA7.out.cel HS7.out.1 rfl rfl ?_;refine hK.out _ _ ?_ ?_
  · exact .inr ((Below.heap_alloc w7 _ _ (gS.1 HA7.out.box).1).trans HA7.out.box)
  clear hK K;simp only[Act.put,List.getElem_toArray,List.getElem_cons_succ,List.getElem_cons_zero,pS];refine nxL 6 rfl (fun K hK=> ?_);go_simp
  go_wp2_with (go_at_call 106;refine(of_any _ _ _ _ _).mono ?_;rintro en w8 ⟨rfl,hb8⟩;have HB8:=yH (And.intro hb8 (And.intro ((hb8.block w2.heap.size (by rw[World.size_alloc];have:=(gS.1 HA7.out.box).1;omega)).trans ((Below.heap_alloc w7 _ _ (gS.1 HA7.out.box).1).trans HA7.out.box)) ((hb8.block w.heap.size (by rw[World.size_alloc];have:=(gS.1 HA7.out.zero).1;omega)).trans ((Below.heap_alloc w7 _ _ (gS.1 HA7.out.zero).1).trans HA7.out.zero))));clear hb8)
  refine hK.out _ _ ?_ ?_
  · exact .inr HB8.out.2.1
  clear hK K;refine nxL 7 rfl (fun K hK=> ?_);refine wp_store_row 56 (.tmp 6) (.tmp 20) rfl w.heap.size (ofC o (.slice (some ⟨w7.heap.size,0,none⟩) 2 2)).toArray rfl rfl 56 zeroN.toArray HB8.out.2.2 (by rw[node_info];rfl) rfl (all_oneCell_toArray (ofC_cel _ _ _ _).2) ?_;refine hK.out _ _ ?_ ?_
  · exact .inl (by kernel_rfl)
  clear hK K;simp only[Act.put,List.getElem_toArray,List.getElem_cons_succ,List.getElem_cons_zero];refine doneL (by kernel_rfl) ?_ _;go_wp2_with fail
  (try simp only[Exit.inBlock,Exit.then])
  refine bodyPost_ret (ret_tree rfl (setRow_heap w8 w.heap.size zeroN.toArray _ 56 (0,0) HB8.out.2.2) (ofC_cel _ _ _ _) rfl) rfl ?_;rw[HM.out];exact HA7.out.two HX.out.2 HX.out.1 HS7.out.1 HS7.out.2.1 HS7.out.2.2 (gS.1 HA.out.box).1 HB8.out.1 HO.out
def CallDoR (w0:World) (f:FuncId) (cmd:Do) (d:Nat):Prop:=∀(w:World) (X:Nat) (S:PS),Pr w0 w X S→Calls Tryz.prog f #[.pointer (some ⟨X,0,none⟩),.int .i64 (d:Int)] w fun e w'=>TrEndR w0 w w' e X (cmd S)
theorem TrEndR.plain {w0 w w':World} {e:Ending} {X:Nat} {r:Tr×PS} (h:TrEndR w0 w w' e X r):TrEnd w0 w w' e X r:=by
  obtain⟨c,h1,h2,h3,h4⟩:=h;exact⟨c,h1,h2.1,h3,h4⟩
theorem CallDoR.plain {w0:World} {f:FuncId} {cmd:Do} {d:Nat} (h:CallDoR w0 f cmd d):CallDo w0 f cmd d:=fun w X S hp=>(h w X S hp).mono fun _ _ he=>he.plain
theorem LpO.ofR {w0 w w3 w4:World} {X:Nat} {p:Option Addr} {c n:Nat} {css:List (List Value)} {l:List Tr} {F:Nat→Prop} {S:PS} (h:LpO w0 w w3 X p c css l F S) (hX:X<w.heap.size) (hX0:w0.heap.size≤X) (hn:l.length=n) (op:List UInt8) (hb:Below w3.heap.size w3 w4):
    TrEndR w0 w (w4.setRow w.heap.size (ofC (T op) (.slice p n c)).toArray) (.returned (.agg (ofC (T op) (.slice p n c)).toArray)) X (trOf op l,S):=by
  have hk:=kept_row0 w4 w.heap.size (ofC (T op) (.slice p n c)).toArray;have ht:=of_tree h.row (by have:=h.few;unfold maxLen;omega) op;rw[hn]at ht;exact⟨_,rfl,⟨ofC_cel _ _ _ _,ofC_six _ _,rfl⟩,((ht.kept (D:=fun _=>False) (Kept.of_below hb) (fun _ _ _ h=>h)).kept hk (fun k h1 h2=>by omega)).base (by omega),(h.pr.new hb).kept hk (by omega) (fun i hi=>by omega),(h.kept.on (Kept.of_below hb)).trans hk fun i hi=> .inr (by omega)⟩
theorem LpO.pushed {w0 w wr w1 w2:World} {X:Nat} {p p':Option Addr} {c c':Nat} {css:List (List Value)} {l:List Tr} {F F':Nat→Prop} {S S':PS} {cs:List Value} {y:Tr} (h:LpO w0 w wr X p c css l F S) (hX:X<w.heap.size) (hX0:w0.heap.size≤X) (hs:PStep w0 wr w1 X S')
    (hr:Kids w0 w2 (w.heap.size+1) (.slice p' (l.length+1) c') (css++ [cs]) (l++ [y]) F') (hk:Kept (fun k=>(Value.slice p l.length c).ownBlock=some k) w1 w2) (hf:l.length+1≤2000):LpO w0 w w2 X p' c' (css++ [cs]) (l++ [y]) F' S':=by
  have hb:∀k,(Value.slice p l.length c).ownBlock=some k→w.heap.size+1≤k:=fun k hk=>(h.row.lt k (.inr hk)).1;have hfew:=hs.1.good.few;refine⟨by rw[List.length_append];exact hr,hs.1.kept hk (fun e=>by have:=hb _ e;omega) (fun k e=>by have:=hb _ e;omega),hk.heap (hs.2.heap h.zero (by omega)) (fun e=>by have:=hb _ e;omega),(h.kept.on hs.2).trans hk fun i hi=> .inr (by have:=hb _ hi;omega),by rw[List.length_append];simp only[List.length_singleton];omega⟩
theorem LpO.first {w0 w w1 w2:World} {X:Nat} {c1:List Value} {t:Tr} {S:PS} (hz:w2.heap[w.heap.size]? =some ZN) (hcel:Cel 8 c1) (hnew:NewAt w0 w2 w1.heap.size fun W=>TrC W c1 t) (hB:w.heap.size+1≤w1.heap.size) (h12:w1.heap.size≤w2.heap.size) (hpr:Pr w0 w2 X S) (hk:Kept (fun k=>k=X) w w2):
    ∃F,LpO w0 w (w2.alloc (.cells c1.toArray 56)) X (some ⟨w2.heap.size,0,none⟩) 1 [c1] [t] F S:=by
  obtain⟨F1,hrow, -⟩:=RowG.one (e:=56) (B:=w.heap.size+1) hcel hnew hB (by omega);exact⟨F1,hrow,hpr.new (below_new _ _),(Below.heap_alloc _ _ _ (gS.1 hz).1).trans hz,hk.on (Kept.of_below (below_new _ _)),by have:=hpr.good.few;simp only[List.length_singleton];omega⟩
set_option maxHeartbeats 8000000 in
set_option maxRecDepth 4000 in
theorem pbranch_any {w0:World} {cmd br:Do} {d:Nat} (hd:d≤100) (hok:DoOk cmd) (hc:CallDo w0 44 (listM cmd) (d+1))
    (hb:∀S,GoodS S→(listM cmd S).2.is [101,108,105,102]=true→CallDo w0 185 br (d+1)):CallDoR w0 185 (branchM cmd br) d:=by
  intro w X S h;have HX:=yH h.base;have HT:=yH (ptake_any (h.new (below_new w ZN)));have HC:=yH hc;have HOK:=yH (to_list hok);have HGA:=yH (to_take h.good);obtain⟨SA,hSA⟩:∃SA,S.take=SA:=⟨_,rfl⟩;rw[hSA]at HT HGA;obtain⟨a,ha⟩:∃a,listM cmd SA=a:=⟨_,rfl⟩;obtain⟨SB,hSB⟩:∃SB,a.2.need [116,104,101,110]=SB:=⟨_,rfl⟩;obtain⟨b,hb2⟩:∃b,listM cmd SB=b:=⟨_,rfl⟩;have HA:=yH (And.intro ha (And.intro hSB hb2));have hGB:GoodS SB:=(by rw[←hSB,←ha];exact(to_need (HOK.out _ HGA.out.good).good _).good);have HGB:=yH hGB;have HBR:=yH (show b.2.is [101,108,105,102]=true→_ from fun h1=>hb SB hGB (by rw[hb2];exact h1));have HM:=yH (show branchM cmd br S=(if b.2.is [101,108,105,102]then (trOf [105,102] [a.1,b.1,(br b.2).1],(br b.2).2)else if b.2.is [101,108,115,101]then (trOf [105,102] [a.1,b.1,(listM cmd b.2.take).1],(listM cmd b.2.take).2.need [102,105])else (trOf [105,102] [a.1,b.1],b.2.need [102,105]))from by rw[←hb2,←hSB,←ha,←hSA];rfl);have HGb:=yH (show GoodS b.2 from by rw[←hb2];exact(HOK.out _ hGB).good);have HIS:=yH (fun W (hW:Pr w0 W X b.2)=>pis_any hW [101,108,105,102]);have HTK:=yH (fun W (hW:Pr w0 W X b.2)=>ptakes_any hW [101,108,115,101]);have hwr:=wrap1 hd;obtain⟨D,hD⟩:∃D:Int,(d:Int)=D:=⟨_,rfl⟩;rw[hD]at hwr ⊢;obtain⟨D1,hD1⟩:∃D:Int,((d+1:Nat):Int)=D:=⟨_,rfl⟩;have HD1:=yH hD1;rw[hD1]at hwr;clear h hc hb hSA ha hSB hb2 hGB hD hD1 hd
  cases hi:b.2.is [101,108,105,102]with
  |true=>
    rw[hi,if_pos rfl]at HM;rw[hi]at HIS;have HBC:=yH (HBR.out hi);clear hi;go_enter Tryz.func185,Tryz.ntmps185
    go_wp2_with (first
      |(refine wpList_store_row (by rfl) 56 (.tmp 4) (.tmp 31) (by rfl) w.heap.size (ofC ⟨#[105,102]⟩ (.slice p9 3 k9)).toArray (by rfl) (by rfl) 56 zeroN.toArray HOF.out.2 (by rw[node_info];rfl) rfl (all_oneCell_toArray (ofC_cel _ _ _ _).2) ?_)
      |(go_at_call 106;refine(of_any _ _ _ _ _).mono ?_;rintro en wo ⟨rfl,hbo⟩;have HOF:=yH (And.intro hbo ((hbo.block w.heap.size (by have:=HL9.out.size;omega)).trans HL9.out.zero));clear hbo)
      |(at_builtin;refine wpList_push elNode (by rfl) (.tmp 24) (.tmp 29) (by rfl) HS8R.out HS8.out.1 HS8.out.2.1 HL7.out.size (fun k hk=>(HL7.out.row.lt k (.inr hk)).2) (by simp) (by rfl) (by rfl) (Nat.le_trans HL7.out.size HS8.out.2.2.2) ?_;intro p9 k9 F9 w9 hr9 _ _ hk9;have HL9:=yH (LpO.pushed HL7.out HX.out.2 HX.out.1 HS8.out.2.2.1 hr9 hk9 (by simp));clear hr9 hk9)
      |(refine wpList_one elNode (by rfl) (.tmp 28) (by rfl) _ c8 rfl HS8.out.1 (by rfl) ?_)
      |(go_at_call 185;rw[←HD1.out];refine(HBC.out w7 X b.2 HL7.out.pr).mono ?_;rintro en w8 ⟨c8,rfl,hcel,hnew,hs⟩;rw[HD1.out];have HS8:=yH (And.intro hcel (And.intro hnew (And.intro hs (hs.2.size))));have HS8R:=yH (HL7.out.row.kept hs.2 (fun k hk=>by have:=(HL7.out.row.lt k hk).1;have:=HX.out;omega));have HS8Z:=yH (And.intro (hs.2.heap HL7.out.zero (by have:=HX.out;omega)) (HL7.out.kept.on hs.2));clear hcel hnew hs)
      |(go_at_call 129;refine(HIS.out _ HL6.out.pr).mono ?_;rintro en w7 ⟨rfl,hb7⟩;have HL7:=yH (HL6.out.step HX.out.2 ⟨HL6.out.pr.new hb7,Kept.of_below hb7⟩ (Nat.le_refl _));clear hb7)
      |(at_builtin;refine wpList_push elNode (by rfl) (.tmp 15) (.tmp 20) (by rfl) HS5.out.2.2.row HS5.out.1 HS5.out.2.1 HL4.out.size (fun k hk=>(HL4.out.row.lt k (.inr hk)).2) (by simp) (by rfl) (by rfl) HS5.out.2.2.size ?_;intro p6 k6 F6 w6 hr6 _ _ hk6;have HL6:=yH (HS5.out.2.2.push HX.out.2 HX.out.1 hr6 hk6 (by have:=HS5.out.2.2.pr.good.few;simp;omega));clear hr6 hk6)
      |(refine wpList_one elNode (by rfl) (.tmp 19) (by rfl) _ c5 rfl HS5.out.1 (by rfl) ?_)
      |(go_at_call 44;rw[←HD1.out];refine(HC.out w4 X SB HL4.out.pr).mono ?_;rw[HA.out.2.2];rintro en w5 ⟨c5,rfl,hcel,hnew,hs⟩;rw[HD1.out];have HS5:=yH (And.intro hcel (And.intro hnew (HL4.out.step HX.out.2 hs (by rw[←HA.out.2.2];exact(HOK.out _ HGB.out).len))));clear hcel hnew hs)
      |(go_at_call 182;refine(pneed_any HL1.out.pr [116,104,101,110]).mono ?_;rintro en w4 ⟨rfl,hs⟩;rw[HA.out.2.1]at hs;have HL4:=yH (HL1.out.step HX.out.2 hs (by rw[←HA.out.2.1];exact(to_need HL1.out.pr.good _).len));clear hs)
      |(refine wpList_one elNode (by rfl) (.tmp 11) (by rfl) _ c1 rfl HS2.out.1 (by rfl) ?_;obtain⟨F1,hL1⟩:=LpO.first HS2.out.2.2.2 HS2.out.1 HS2.out.2.1 (gS.1 HS1.out.2).1 HS2.out.2.2.1.2.size HS2.out.2.2.1.1 (((Kept.of_below (below_new w ZN)).on HS1.out.1.2).on HS2.out.2.2.1.2);obtain⟨w3,hw3⟩:∃w3,w3=w2.alloc (.cells c1.toArray 56):=⟨_,rfl⟩;rw[←hw3]at hL1 ⊢;have HL1:=yH hL1;clear hL1 hw3)
      |(go_at_call 44;rw[←HD1.out];refine(HC.out w1 X SA HS1.out.1.1).mono ?_;rw[HA.out.1];rintro en w2 ⟨c1,rfl,hcel,hnew,hs⟩;rw[HD1.out];have HS2:=yH (And.intro hcel (And.intro hnew (And.intro hs (hs.2.heap HS1.out.2 (by have:=HX.out;omega)))));clear hcel hnew hs)
      |(go_at_call 105;refine HT.out.mono ?_;rintro en w1 ⟨p,k1,rfl, -,hs⟩;have HS1:=yH (And.intro hs (hs.2.heap (heap_alloc_new w ZN) (by have:=HX.out;omega)));clear hs))
    (try simp only[Exit.inBlock,Exit.then])
    refine bodyPost_ret (ret_tree rfl (setRow_heap wo w.heap.size zeroN.toArray _ 56 (0,0) HOF.out.2) (ofC_cel _ _ _ _) rfl) rfl ?_;rw[HM.out];exact HL9.out.ofR HX.out.2 HX.out.1 (by simp) [105,102] HOF.out.1
  |false=>
    rw[hi,if_neg (by decide)]at HM;rw[hi]at HIS;clear hi HBR;unfold PS.takes at HTK
    cases hj:b.2.is [101,108,115,101]with
    |true=>
      rw[hj,if_pos rfl]at HM HTK;have HE:=yH (take_lt HGb.out (is_ne HGb.out (by decide) hj));clear hj;go_enter Tryz.func185,Tryz.ntmps185
      go_wp2_with (first
        |(refine wpList_store_row (by rfl) 56 (.tmp 4) (.tmp 44) (by rfl) w.heap.size (ofC ⟨#[105,102]⟩ (.slice p10 3 k10)).toArray (by rfl) (by rfl) 56 zeroN.toArray HOF.out.2 (by rw[node_info];rfl) rfl (all_oneCell_toArray (ofC_cel _ _ _ _).2) ?_)
        |(go_at_call 106;refine(of_any _ _ _ _ _).mono ?_;rintro en wo ⟨rfl,hbo⟩;have HOF:=yH (And.intro hbo ((hbo.block w.heap.size (by have:=HL11.out.size;omega)).trans HL11.out.zero));clear hbo)
        |(go_at_call 182;refine(pneed_any HL10.out.pr [102,105]).mono ?_;rintro en w11 ⟨rfl,hs⟩;have HL11:=yH (HL10.out.step HX.out.2 hs (to_need HL10.out.pr.good _).len);clear hs)
        |(at_builtin;refine wpList_push elNode (by rfl) (.tmp 34) (.tmp 39) (by rfl) HS9.out.2.2.row HS9.out.1 HS9.out.2.1 HL8.out.size (fun k hk=>(HL8.out.row.lt k (.inr hk)).2) (by simp) (by rfl) (by rfl) HS9.out.2.2.size ?_;intro p10 k10 F10 w10 hr6 _ _ hk6;have HL10:=yH (HS9.out.2.2.push HX.out.2 HX.out.1 hr6 hk6 (by have:=HS9.out.2.2.pr.good.few;simp;omega));clear hr6 hk6)
        |(refine wpList_one elNode (by rfl) (.tmp 38) (by rfl) _ c9 rfl HS9.out.1 (by rfl) ?_)
        |(go_at_call 44;rw[←HD1.out];refine(HC.out w8 X b.2.take HL8.out.pr).mono ?_;rintro en w9 ⟨c9,rfl,hcel,hnew,hs⟩;rw[HD1.out];have HS9:=yH (And.intro hcel (And.intro hnew (HL8.out.step HX.out.2 hs (HOK.out _ HL8.out.pr.good).len)));clear hcel hnew hs)
        |(go_at_call 102;refine(HTK.out _ HL7.out.pr).mono ?_;rintro en w8 ⟨rfl,hs⟩;have HL8:=yH (HL7.out.step (S':=b.2.take) HX.out.2 hs (Nat.le_of_lt HE.out));clear hs)
        |(go_at_call 129;refine(HIS.out _ HL6.out.pr).mono ?_;rintro en w7 ⟨rfl,hb7⟩;have HL7:=yH (HL6.out.step HX.out.2 ⟨HL6.out.pr.new hb7,Kept.of_below hb7⟩ (Nat.le_refl _));clear hb7)
        |(at_builtin;refine wpList_push elNode (by rfl) (.tmp 15) (.tmp 20) (by rfl) HS5.out.2.2.row HS5.out.1 HS5.out.2.1 HL4.out.size (fun k hk=>(HL4.out.row.lt k (.inr hk)).2) (by simp) (by rfl) (by rfl) HS5.out.2.2.size ?_;intro p6 k6 F6 w6 hr6 _ _ hk6;have HL6:=yH (HS5.out.2.2.push HX.out.2 HX.out.1 hr6 hk6 (by have:=HS5.out.2.2.pr.good.few;simp;omega));clear hr6 hk6)
        |(refine wpList_one elNode (by rfl) (.tmp 19) (by rfl) _ c5 rfl HS5.out.1 (by rfl) ?_)
        |(go_at_call 44;rw[←HD1.out];refine(HC.out w4 X SB HL4.out.pr).mono ?_;rw[HA.out.2.2];rintro en w5 ⟨c5,rfl,hcel,hnew,hs⟩;rw[HD1.out];have HS5:=yH (And.intro hcel (And.intro hnew (HL4.out.step HX.out.2 hs (by rw[←HA.out.2.2];exact(HOK.out _ HGB.out).len))));clear hcel hnew hs)
        |(go_at_call 182;refine(pneed_any HL1.out.pr [116,104,101,110]).mono ?_;rintro en w4 ⟨rfl,hs⟩;rw[HA.out.2.1]at hs;have HL4:=yH (HL1.out.step HX.out.2 hs (by rw[←HA.out.2.1];exact(to_need HL1.out.pr.good _).len));clear hs)
        |(refine wpList_one elNode (by rfl) (.tmp 11) (by rfl) _ c1 rfl HS2.out.1 (by rfl) ?_;obtain⟨F1,hL1⟩:=LpO.first HS2.out.2.2.2 HS2.out.1 HS2.out.2.1 (gS.1 HS1.out.2).1 HS2.out.2.2.1.2.size HS2.out.2.2.1.1 (((Kept.of_below (below_new w ZN)).on HS1.out.1.2).on HS2.out.2.2.1.2);obtain⟨w3,hw3⟩:∃w3,w3=w2.alloc (.cells c1.toArray 56):=⟨_,rfl⟩;rw[←hw3]at hL1 ⊢;have HL1:=yH hL1;clear hL1 hw3)
        |(go_at_call 44;rw[←HD1.out];refine(HC.out w1 X SA HS1.out.1.1).mono ?_;rw[HA.out.1];rintro en w2 ⟨c1,rfl,hcel,hnew,hs⟩;rw[HD1.out];have HS2:=yH (And.intro hcel (And.intro hnew (And.intro hs (hs.2.heap HS1.out.2 (by have:=HX.out;omega)))));clear hcel hnew hs)
        |(go_at_call 105;refine HT.out.mono ?_;rintro en w1 ⟨p,k1,rfl, -,hs⟩;have HS1:=yH (And.intro hs (hs.2.heap (heap_alloc_new w ZN) (by have:=HX.out;omega)));clear hs))
      (try simp only[Exit.inBlock,Exit.then])
      refine bodyPost_ret (ret_tree rfl (setRow_heap wo w.heap.size zeroN.toArray _ 56 (0,0) HOF.out.2) (ofC_cel _ _ _ _) rfl) rfl ?_;rw[HM.out];exact HL11.out.ofR HX.out.2 HX.out.1 (by simp) [105,102] HOF.out.1
    |false=>
      rw[hj,if_neg (by decide)]at HM HTK;clear hj;go_enter Tryz.func185,Tryz.ntmps185
      go_wp2_with (first
        |(refine wpList_store_row (by rfl) 56 (.tmp 4) (.tmp 44) (by rfl) w.heap.size (ofC ⟨#[105,102]⟩ (.slice p6 2 k6)).toArray (by rfl) (by rfl) 56 zeroN.toArray HOF.out.2 (by rw[node_info];rfl) rfl (all_oneCell_toArray (ofC_cel _ _ _ _).2) ?_)
        |(go_at_call 106;refine(of_any _ _ _ _ _).mono ?_;rintro en wo ⟨rfl,hbo⟩;have HOF:=yH (And.intro hbo ((hbo.block w.heap.size (by have:=HL9.out.size;omega)).trans HL9.out.zero));clear hbo)
        |(go_at_call 182;refine(pneed_any HL8.out.pr [102,105]).mono ?_;rintro en w9 ⟨rfl,hs⟩;have HL9:=yH (HL8.out.step HX.out.2 hs (to_need HL8.out.pr.good _).len);clear hs)
        |(go_at_call 102;refine(HTK.out _ HL7.out.pr).mono ?_;rintro en w8 ⟨rfl,hs⟩;have HL8:=yH (HL7.out.step (S':=b.2) HX.out.2 hs (Nat.le_refl _));clear hs)
        |(go_at_call 129;refine(HIS.out _ HL6.out.pr).mono ?_;rintro en w7 ⟨rfl,hb7⟩;have HL7:=yH (HL6.out.step HX.out.2 ⟨HL6.out.pr.new hb7,Kept.of_below hb7⟩ (Nat.le_refl _));clear hb7)
        |(at_builtin;refine wpList_push elNode (by rfl) (.tmp 15) (.tmp 20) (by rfl) HS5.out.2.2.row HS5.out.1 HS5.out.2.1 HL4.out.size (fun k hk=>(HL4.out.row.lt k (.inr hk)).2) (by simp) (by rfl) (by rfl) HS5.out.2.2.size ?_;intro p6 k6 F6 w6 hr6 _ _ hk6;have HL6:=yH (HS5.out.2.2.push HX.out.2 HX.out.1 hr6 hk6 (by have:=HS5.out.2.2.pr.good.few;simp;omega));clear hr6 hk6)
        |(refine wpList_one elNode (by rfl) (.tmp 19) (by rfl) _ c5 rfl HS5.out.1 (by rfl) ?_)
        |(go_at_call 44;rw[←HD1.out];refine(HC.out w4 X SB HL4.out.pr).mono ?_;rw[HA.out.2.2];rintro en w5 ⟨c5,rfl,hcel,hnew,hs⟩;rw[HD1.out];have HS5:=yH (And.intro hcel (And.intro hnew (HL4.out.step HX.out.2 hs (by rw[←HA.out.2.2];exact(HOK.out _ HGB.out).len))));clear hcel hnew hs)
        |(go_at_call 182;refine(pneed_any HL1.out.pr [116,104,101,110]).mono ?_;rintro en w4 ⟨rfl,hs⟩;rw[HA.out.2.1]at hs;have HL4:=yH (HL1.out.step HX.out.2 hs (by rw[←HA.out.2.1];exact(to_need HL1.out.pr.good _).len));clear hs)
        |(refine wpList_one elNode (by rfl) (.tmp 11) (by rfl) _ c1 rfl HS2.out.1 (by rfl) ?_;obtain⟨F1,hL1⟩:=LpO.first HS2.out.2.2.2 HS2.out.1 HS2.out.2.1 (gS.1 HS1.out.2).1 HS2.out.2.2.1.2.size HS2.out.2.2.1.1 (((Kept.of_below (below_new w ZN)).on HS1.out.1.2).on HS2.out.2.2.1.2);obtain⟨w3,hw3⟩:∃w3,w3=w2.alloc (.cells c1.toArray 56):=⟨_,rfl⟩;rw[←hw3]at hL1 ⊢;have HL1:=yH hL1;clear hL1 hw3)
        |(go_at_call 44;rw[←HD1.out];refine(HC.out w1 X SA HS1.out.1.1).mono ?_;rw[HA.out.1];rintro en w2 ⟨c1,rfl,hcel,hnew,hs⟩;rw[HD1.out];have HS2:=yH (And.intro hcel (And.intro hnew (And.intro hs (hs.2.heap HS1.out.2 (by have:=HX.out;omega)))));clear hcel hnew hs)
        |(go_at_call 105;refine HT.out.mono ?_;rintro en w1 ⟨p,k1,rfl, -,hs⟩;have HS1:=yH (And.intro hs (hs.2.heap (heap_alloc_new w ZN) (by have:=HX.out;omega)));clear hs))
      (try simp only[Exit.inBlock,Exit.then])
      refine bodyPost_ret (ret_tree rfl (setRow_heap wo w.heap.size zeroN.toArray _ 56 (0,0) HOF.out.2) (ofC_cel _ _ _ _) rfl) rfl ?_;rw[HM.out];exact HL9.out.ofR HX.out.2 HX.out.1 (by simp) [105,102] HOF.out.1
def WordP (W:World) (cs:List Value) (x:List Pt):Prop:=∃u,cs= [u]∧PsAt W u x
def PairP (W:World) (cs:List Value) (x:List UInt8×List Pt):Prop:=∃u,cs= [txt x.1,u]∧PsAt W u x.2
def WordsP (W:World) (cs:List Value) (x:List (List Pt)):Prop:=∃u,cs= [u]∧WsAt W u x
abbrev WRow (w0 w:World) (B:Nat) (v:Value) (css:List (List Value)) (l:List (List Pt)) (F:Nat→Prop):Prop:=RowG w0 w 70 1 WordP B v css l F
theorem slice_cel (p:Option Addr) (n c:Nat):Cel 1 [.slice p n c]:=⟨rfl,fun v hv=>by rw[List.mem_singleton.1 hv];rfl⟩
theorem word_new {w0 w:World} {C:Nat} {p:Option Addr} {n c:Nat} {ps:List Pt} (h:PsAt w0 (.slice p n c) ps):NewAt w0 w C fun W=>WordP W [.slice p n c] ps:=NewAt.of0 fun _ hb=>⟨_,rfl,h.stays hb⟩
structure LwO (w0 w wr:World) (X:Nat) (p:Option Addr) (c:Nat) (css:List (List Value)) (l:List (List Pt)) (F:Nat→Prop) (S:PS):Prop where
  row:WRow w0 wr w.heap.size (.slice p l.length c) css l F
  pr:Pr w0 wr X S
  kept:Kept (fun k=>k=X) w wr
  few:l.length+S.ts.length≤4002
theorem LwO.step {w0 w wr w1:World} {X:Nat} {p:Option Addr} {c:Nat} {css:List (List Value)} {l:List (List Pt)} {F:Nat→Prop} {S S':PS} (h:LwO w0 w wr X p c css l F S) (hX:X<w.heap.size) (hs:PStep w0 wr w1 X S') (hl:S'.ts.length≤S.ts.length):LwO w0 w w1 X p c css l F S':=
  ⟨h.row.kept hs.2 (fun k hk=>by have:=(h.row.lt k hk).1;omega),hs.1,h.kept.on hs.2,by have:=h.few;omega⟩
theorem LwO.push {w0 w wr w1:World} {X:Nat} {p p':Option Addr} {c c':Nat} {css:List (List Value)} {l:List (List Pt)} {F F':Nat→Prop} {S:PS} {cs:List Value} {y:List Pt} (h:LwO w0 w wr X p c css l F S) (hX:X<w.heap.size) (hX0:w0.heap.size≤X)
    (hr:WRow w0 w1 w.heap.size (.slice p' (l.length+1) c') (css++ [cs]) (l++ [y]) F') (hk:Kept (fun k=>(Value.slice p l.length c).ownBlock=some k) wr w1) (hf:l.length+1+S.ts.length≤4002):LwO w0 w w1 X p' c' (css++ [cs]) (l++ [y]) F' S:=by
  have hb:∀k,(Value.slice p l.length c).ownBlock=some k→w.heap.size≤k:=fun k hk=>(h.row.lt k (.inr hk)).1;refine⟨by rw[List.length_append];exact hr,h.pr.kept hk (fun e=>by have:=hb _ e;omega) (fun k e=>by have:=hb _ e;omega),h.kept.trans hk fun i hi=> .inr (hb _ hi),by rw[List.length_append];simpa [Nat.add_comm,Nat.add_left_comm,Nat.add_assoc]using hf⟩
theorem patsL_go {f:Nat} {l:List (List Pt)} {S:PS} (h:S.is [124]=true):patsL (f+1) l S=patsL f (l++ [S.take.word.1]) S.take.word.2:=by rw[patsL,if_pos h]
theorem patsL_end {f:Nat} {l:List (List Pt)} {S:PS} (h:S.is [124]=false):patsL (f+1) l S=(l,S):=by rw[patsL,if_neg (by rw[h];decide)]
set_option maxHeartbeats 4000000 in
set_option maxRecDepth 4000 in
theorem ppats_any {w0 w:World} {X:Nat} {S:PS} (h:Pr w0 w X S):
    Calls Tryz.prog 196 #[.pointer (some ⟨X,0,none⟩)] w fun e w'=> ∃p n c,e= .returned (.slice p n c)∧NewAt w0 w' w.heap.size (fun W=>WsAt W (.slice p n c) (patsM S).1)∧PStep w0 w w' X (patsM S).2:=by
  have HX:=yH h.base;have HT:=yH (ptakes_any h [40]);have HM:=yH (show patsM S=((patsL (S.takes [40]).2.word.2.ts.length [(S.takes [40]).2.word.1] (S.takes [40]).2.word.2).1,(patsL (S.takes [40]).2.word.2.ts.length [(S.takes [40]).2.word.1] (S.takes [40]).2.word.2).2.need [41])from rfl);have HG1:=yH (to_takes h.good [40]);obtain⟨b,hb⟩:∃b,(S.takes [40]).1=b:=⟨_,rfl⟩;obtain⟨S1,hS1⟩:∃S1,(S.takes [40]).2=S1:=⟨_,rfl⟩;rw[hS1]at HM HG1;rw[hb,hS1]at HT;obtain⟨q,hq⟩:∃q,patsL S1.word.2.ts.length [S1.word.1] S1.word.2=q:=⟨_,rfl⟩;rw[hq]at HM;have HQ:=yH hq;obtain⟨x,hx⟩:∃x,S1.word.1=x:=⟨_,rfl⟩;have HW:=yH (fun W (hW:Pr w0 W X S1)=>pword_any hW);rw[hx]at HQ HW;obtain⟨xl,hxl⟩:∃n,x.length=n:=⟨_,rfl⟩;rw[hxl]at HW;clear h hb hS1 hq hx hxl;go_enter Tryz.func196,Tryz.ntmps196
  go_wp2_with (first
    |(go_at_call 102;refine HT.out.mono ?_;rintro en w1 ⟨rfl,hs⟩;have HS1:=yH hs;clear hs)
    |(go_at_call 191;refine(HW.out _ HS1.out.1).mono ?_;rintro en w2 ⟨p2,k2,rfl,hu,hs⟩;have HS2:=yH (And.intro hs hu);clear hs hu)
    |(refine wpList_one elWord (by rfl) (.tmp 7) (by rfl) _ [.slice p2 xl k2] rfl (slice_cel _ _ _) (by rfl) ?_))
  obtain⟨F1,hrow, -⟩:=RowG.one (w0:=w0) (w:=w2) (e:=70) (B:=w.heap.size) (C:=w.heap.size) (slice_cel p2 xl k2) (word_new HS2.out.2) (Nat.le_refl _) (Nat.le_trans HS1.out.2.size HS2.out.1.2.size);have HL0:=yH (show LwO w0 w (w2.alloc (.cells [.slice p2 xl k2].toArray 70)) X (some ⟨w2.heap.size,0,none⟩) 1 [[.slice p2 xl k2]] [x] F1 S1.word.2 from⟨hrow,HS2.out.1.1.new (below_new _ _),(HS1.out.2.on HS2.out.1.2).on (Kept.of_below (below_new _ _)),by have:=HS2.out.1.1.good.few;simp only[List.length_singleton];omega⟩);clear hrow
  go_loopw [3] (fun v wr=> ∃f p c css l F S',v= .slice p l.length c∧LwO w0 w wr X p c css l F S'∧patsL f l S'=q∧S'.ts.length≤f) (fun _ wr=>psLen wr X)
  case atStart=>exact⟨_,_,_,_,_,_,_,rfl,HL0.out,HQ.out,Nat.le_refl _⟩
  case round=>
    obtain⟨f,p,c,css,l,F,S',rfl,hL,hm,hf⟩:=hrel;have hpos:=hL.pr.good.pos;obtain⟨f,rfl⟩:∃g,f=g+1:=⟨f-1,by omega⟩;have HT2:=yH (ptakes_any hL.pr [124]);have HS:=yH (And.intro hL (And.intro hm hf));clear hL hm hf hpos;unfold PS.takes at HT2;obtain⟨n,hn⟩:∃n,l.length=n:=⟨_,rfl⟩;have HN:=yH hn;rw[hn];clear hn
    cases hi:S'.is [124]with
    |true=>
      rw[hi,if_pos rfl]at HT2;have HI:=yH hi;clear hi;obtain⟨y,hy⟩:∃y,S'.take.word.1=y:=⟨_,rfl⟩;have HY:=yH hy;have HW2:=yH (fun W (hW:Pr w0 W X S'.take)=>pword_any hW);rw[hy]at HW2;obtain⟨yl,hyl⟩:∃n,y.length=n:=⟨_,rfl⟩;rw[hyl]at HW2;clear hy hyl
      go_wp2_with (first
        |(go_at_call 102;refine HT2.out.mono ?_;rintro en w3 ⟨rfl,hs⟩;have HL3:=yH (HS.out.1.step HX.out.2 hs (to_take HS.out.1.pr.good).len);clear hs)
        |(go_at_call 191;refine(HW2.out _ HL3.out.pr).mono ?_;rintro en w5 ⟨p5,k5,rfl,hu,hs⟩;have HS5:=yH (And.intro hu (HL3.out.step HX.out.2 hs (to_word HL3.out.pr.good).len));clear hs hu)
        |(refine wpList_one elWord (by rfl) (.tmp 13) (by rfl) _ [.slice p5 yl k5] rfl (slice_cel _ _ _) (by rfl) ?_)
        |(at_builtin;refine wpList_push elWord (by rfl) (.tmp 11) (.tmp 14) (by rfl) HS5.out.2.row (slice_cel _ _ _) (word_new (C:=w5.heap.size) HS5.out.1) HS5.out.2.kept.size (fun k hk=>(HS5.out.2.row.lt k (.inr hk)).2) (by have:=HS5.out.2.few;omega) (by rw[HN.out];rfl) (by rfl) HS5.out.2.kept.size ?_;intro p6 c6 F6 w6 hr6 _ _ hk6;rw[HN.out]at hr6;have HS6:=yH (And.intro hr6 hk6);clear hr6 hk6))
      have hlt:S'.take.word.2.ts.length<S'.ts.length:=Nat.lt_of_le_of_lt (to_word (to_take HS.out.1.pr.good).good).len (take_lt HS.out.1.pr.good (is_ne HS.out.1.pr.good (by decide) HI.out));have h6:=HS6.out.1;rw[←HN.out]at h6;have hfew:=HS.out.1.few;have HLP:=yH (HS5.out.2.push HX.out.2 HX.out.1 h6 HS6.out.2 (by omega));clear h6
      go_roundw
      case rel=>exact⟨f,p6,c6,_,_,F6,_,by rw[List.length_append,HN.out];rfl,HLP.out,by rw[←HY.out,←patsL_go HI.out];exact HS.out.2.1,by have:=HS.out.2.2;omega⟩
      case measure=>rw[HLP.out.pr.len,HS.out.1.pr.len];exact hlt
    |false=>
      rw[hi,if_neg (by decide)]at HT2;have HI:=yH hi;clear hi;have HE:=yH (show patsM S=(l,S'.need [41])from by rw[HM.out,←HS.out.2.1,patsL_end HI.out])
      go_wp2_with (first
        |(go_at_call 102;refine HT2.out.mono ?_;rintro en w3 ⟨rfl,hs⟩;have HL3:=yH (HS.out.1.step HX.out.2 hs (Nat.le_refl _));clear hs)
        |(go_at_call 182;refine(pneed_any HL3.out.pr [41]).mono ?_;rintro en w4 ⟨rfl,hs⟩;have HL4:=yH (HL3.out.step HX.out.2 hs (to_need HL3.out.pr.good _).len);clear hs))
      go_ret;refine⟨p,n,c,rfl,?_,?_⟩
      · have h:=HL4.out.row.sl (by have:=HL4.out.few;unfold maxLen;omega)
        rw[HN.out]at h;rw[HE.out];exact h
      · rw[HE.out]
        exact⟨HL4.out.pr,HL4.out.kept⟩
end Go.Proofs.YtakceggnadagmaaGreatDoor
