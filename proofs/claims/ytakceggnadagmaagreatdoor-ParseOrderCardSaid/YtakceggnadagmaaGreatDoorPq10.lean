/-
  Proved: contracts of functions, plain facts. Conditions: as each says.
-/
import Derived.Test.YtakceggnadagmaaGreatDoorPq09
import Derived.Test.YtakceggnadagmaaGreatDoorPq01
namespace Go.Proofs.YtakceggnadagmaaGreatDoor
open Go Go.RowKit GlyphMath LexMath TreeMath ParseMath
theorem ret_tree2 {fn:Func} {p u:Tmp} (hf:fn.results= #[.cell p 56,.tmp u]) {tmps:Array Value} {k:Nat} {cs:List Value} {x:Value} {w:World} {t:TypeId} {fr:Nat×Nat} (h:w.heap[k]? =some (.cells cs.toArray t fr)) (hc:Cel 8 cs) (h2:tmps.getD p undef= .pointer (some ⟨k,0,none⟩)) (h3:tmps.getD u undef=x):
    (results fn tmps).run Tryz.prog w= .ok (.tuple #[.agg cs.toArray,x]) w:=by
  rw[results_cell_tmp hf,h2,h3];have:(loadVar 56 ⟨k,0,none⟩).run Tryz.prog w= .ok (.agg cs.toArray) w:=run_loadVar_row (P:=Tryz.prog) w k t 56 _ fr _ h Tryz.underlying56 rfl (by rw[node_info];simp[hc.1]);simp[asAddr,Result.andThen,this]
def CoEnd (w0 w w':World) (e:Ending) (X:Nat) (S:PS) (m:Option (Tr×PS)):Prop:=match m with
  |some r=> ∃c,e= .returned (.tuple #[.agg c.toArray,.bool true])∧(Cel 8 c∧c[6]? =some (.slice none 0 0)∧r.1.node.redirs= [])∧NewAt w0 w' w.heap.size (fun W=>TrC W c r.1)∧PStep w0 w w' X r.2
  |none=>e= .returned (.tuple #[.agg zeroN.toArray,.bool false])∧PStep w0 w w' X S
theorem co_some {w0 w w1 w2:World} {X:Nat} {S:PS} {r:Tr×PS} {c:List Value} (hX:X<w.heap.size) (hX0:w0.heap.size≤X) (hb:Below w.heap.size w w1) (hz:w.heap.size<w1.heap.size) (hc:Cel 8 c∧c[6]? =some (.slice none 0 0)∧r.1.node.redirs= []) (hn:NewAt w0 w2 w1.heap.size fun W=>TrC W c r.1) (hs:PStep w0 w1 w2 X r.2):
    CoEnd w0 w (w2.setRow w.heap.size c.toArray) (.returned (.tuple #[.agg c.toArray,.bool true])) X S (some r):=by
  have hk:=kept_row0 w2 w.heap.size c.toArray;exact⟨c,rfl,hc,(hn.kept hk (fun k h1 h2=>by omega)).base (by omega),hs.1.kept hk (by omega) (fun i hi=>by omega),((Kept.of_below (D:=fun k=>k=X) hb).on hs.2).trans hk fun i hi=> .inr (by omega)⟩
set_option maxHeartbeats 16000000 in
set_option maxRecDepth 10000 in
theorem pcompound_none {w0 w:World} {X:Nat} {S:PS} (d:Nat) (h:Pr w0 w X S) (hn:∀s∈ [[123],[40],[105,102],[119,104,105,108,101],[117,110,116,105,108],[102,111,114],[99,97,115,101]],S.is s=false):
    Calls Tryz.prog 156 #[.pointer (some ⟨X,0,none⟩),.int .i64 (d:Int)] w fun e w'=>CoEnd w0 w w' e X S none:=by
  have HX:=yH h.base;have HP:=yH (h.new (below_new w ZN));have HN:=yH (pnext_any (h.new (below_new w ZN)));have HTX:=yH (fun W (hW:Below w0.heap.size w0 W) p k (hu:PsAt w0 (.slice p S.hd.word.length k) S.hd.word)=>text_any hW S.hd p k hu);obtain⟨R,hR⟩:∃R,T (textK S.hd)=R:=⟨_,rfl⟩;have hl:textK S.hd=R.toList:=(by rw[←hR,Lib.toList_data]);have hq:∀s,s∈ [[123],[40],[105,102],[119,104,105,108,101],[117,110,116,105,108],[102,111,114],[99,97,115,101]]→(R.toList==s)=false:=fun s hs=>(by rw[←hl];exact hn s hs);have q0:=hq [123] (by simp);have q1:=hq [40] (by simp);have q2:=hq [105,102] (by simp);have q3:=hq [119,104,105,108,101] (by simp);have q4:=hq [117,110,116,105,108] (by simp);have q5:=hq [102,111,114] (by simp);have q6:=hq [99,97,115,101] (by simp);rw[hR]at HTX;clear h hn hq hl hR;go_enter Tryz.func156,Tryz.ntmps156
  go_wp2_with (first
    |(go_at_call 45;refine HN.out.mono ?_;rintro en w1 ⟨p,k,rfl,hu,hb1⟩;have HB1:=yH (And.intro hb1 ((hb1.block w.heap.size (by simp)).trans (heap_alloc_new w ZN)));have HC:=yH (HTX.out _ (HP.out.new hb1).below p k hu);clear hb1 hu)
    |(go_at_call 104;refine HC.out.mono ?_;rintro en w2 ⟨rfl,hb2⟩;have HB2:=yH (And.intro hb2 ((hb2.block w.heap.size (gS.1 HB1.out.2).1).trans HB1.out.2));clear hb2)
    |(refine wpList_store_row (by rfl) 56 (.tmp 4) (.tmp 43) (by rfl) w.heap.size zeroN.toArray (by rfl) (by rfl) 56 zeroN.toArray HB2.out.2 (by rw[node_info];rfl) rfl (all_oneCell_toArray (ofC_cel _ _ _ _).2) ?_))
  (try simp only[Exit.inBlock,Exit.then])
  refine bodyPost_ret (ret_tree2 rfl (setRow_heap w2 w.heap.size zeroN.toArray _ 56 (0,0) HB2.out.2) (ofC_cel _ _ _ _) rfl rfl) rfl ?_;have hk:=kept_row0 w2 w.heap.size zeroN.toArray;have hx:=HX.out;refine⟨rfl,((HP.out.new HB1.out.1).new HB2.out.1).kept hk (by omega) (fun i hi=>by omega),((((Kept.of_below (D:=fun k=>k=X) (below_new w ZN)).on (Kept.of_below HB1.out.1)).on (Kept.of_below HB2.out.1))).trans hk fun i hi=> .inr (by omega)⟩
set_option maxHeartbeats 16000000 in
set_option maxRecDepth 10000 in
theorem pcompound_brace {w0 w:World} {X:Nat} {S:PS} {cmd:Do} {d:Nat} (hd:d≤100) (hc:CallDo w0 44 (listM cmd) (d+1)) (h:Pr w0 w X S) (hi:S.is [123]=true):
    Calls Tryz.prog 156 #[.pointer (some ⟨X,0,none⟩),.int .i64 (d:Int)] w fun e w'=>CoEnd w0 w w' e X S (some (enclosedM cmd [103,114,111,117,112] [125] S)):=by
  have HX:=yH h.base;have HP:=yH (h.new (below_new w ZN));have HN:=yH (pnext_any (h.new (below_new w ZN)));have HTX:=yH (fun W (hW:Below w0.heap.size w0 W) p k (hu:PsAt w0 (.slice p S.hd.word.length k) S.hd.word)=>text_any hW S.hd p k hu);rw[show textK S.hd= [123] by simpa [PS.is,PS.tx]using hi]at HTX;have HC0:=yH (fun W (hW:Pr w0 W X S)=>penclosed_any hd hc [103,114,111,117,112] [125] W X S hW);obtain⟨r,hr⟩:∃r,enclosedM cmd [103,114,111,117,112] [125] S=r:=⟨_,rfl⟩;rw[hr]at HC0 ⊢;clear h hi hc hr hd;go_enter Tryz.func156,Tryz.ntmps156
  go_wp2_with (first
    |(go_at_call 45;refine HN.out.mono ?_;rintro en w1 ⟨p,k,rfl,hu,hb1⟩;have HB1:=yH (And.intro hb1 ((hb1.block w.heap.size (by simp)).trans (heap_alloc_new w ZN)));have HC:=yH (HTX.out _ (HP.out.new hb1).below p k hu);clear hb1 hu)
    |(go_at_call 104;refine HC.out.mono ?_;rintro en w2 ⟨rfl,hb2⟩;have HB2:=yH (And.intro ((HP.out.new HB1.out.1).new hb2) (And.intro (((below_new w ZN).trans (HB1.out.1.mono (by simp))).trans (hb2.mono (by have:=HB1.out.1.size;simp at this;omega))) ((hb2.block w.heap.size (gS.1 HB1.out.2).1).trans HB1.out.2)));clear hb2)
    |(go_at_call 184;refine(HC0.out _ HB2.out.1).mono ?_;rintro en w3 ⟨c,rfl,hcel,hnew,hs⟩;have HS3:=yH (And.intro hcel (And.intro hnew (And.intro hs (hs.2.heap HB2.out.2.2 (by have:=HX.out;omega)))));clear hcel hnew hs)
    |(refine wpList_store_row (by rfl) 56 (.tmp 4) (.tmp 15) (by rfl) w.heap.size c.toArray (by rfl) (by rfl) 56 zeroN.toArray HS3.out.2.2.2 (by rw[node_info];simp[HS3.out.1.1.1]) (by simp[HS3.out.1.1.1,zeroN,ofC]) (all_oneCell_toArray HS3.out.1.1.2) ?_))
  (try simp only[Exit.inBlock,Exit.then])
  refine bodyPost_ret (ret_tree2 rfl (setRow_heap w3 w.heap.size zeroN.toArray _ 56 (0,0) HS3.out.2.2.2) HS3.out.1.1 rfl rfl) rfl ?_;exact co_some HX.out.2 HX.out.1 HB2.out.2.1 (gS.1 HB2.out.2.2).1 HS3.out.1 HS3.out.2.1 HS3.out.2.2.1
set_option maxHeartbeats 16000000 in
set_option maxRecDepth 10000 in
theorem pcompound_paren {w0 w:World} {X:Nat} {S:PS} {cmd:Do} {d:Nat} (hd:d≤100) (hc:CallDo w0 44 (listM cmd) (d+1)) (h:Pr w0 w X S) (hi:S.is [40]=true):
    Calls Tryz.prog 156 #[.pointer (some ⟨X,0,none⟩),.int .i64 (d:Int)] w fun e w'=>CoEnd w0 w w' e X S (some (enclosedM cmd [115,117,98] [41] S)):=by
  have HX:=yH h.base;have HP:=yH (h.new (below_new w ZN));have HN:=yH (pnext_any (h.new (below_new w ZN)));have HTX:=yH (fun W (hW:Below w0.heap.size w0 W) p k (hu:PsAt w0 (.slice p S.hd.word.length k) S.hd.word)=>text_any hW S.hd p k hu);rw[show textK S.hd= [40] by simpa [PS.is,PS.tx]using hi]at HTX;have HC0:=yH (fun W (hW:Pr w0 W X S)=>penclosed_any hd hc [115,117,98] [41] W X S hW);obtain⟨r,hr⟩:∃r,enclosedM cmd [115,117,98] [41] S=r:=⟨_,rfl⟩;rw[hr]at HC0 ⊢;clear h hi hc hr hd;go_enter Tryz.func156,Tryz.ntmps156
  go_wp2_with (first
    |(go_at_call 45;refine HN.out.mono ?_;rintro en w1 ⟨p,k,rfl,hu,hb1⟩;have HB1:=yH (And.intro hb1 ((hb1.block w.heap.size (by simp)).trans (heap_alloc_new w ZN)));have HC:=yH (HTX.out _ (HP.out.new hb1).below p k hu);clear hb1 hu)
    |(go_at_call 104;refine HC.out.mono ?_;rintro en w2 ⟨rfl,hb2⟩;have HB2:=yH (And.intro ((HP.out.new HB1.out.1).new hb2) (And.intro (((below_new w ZN).trans (HB1.out.1.mono (by simp))).trans (hb2.mono (by have:=HB1.out.1.size;simp at this;omega))) ((hb2.block w.heap.size (gS.1 HB1.out.2).1).trans HB1.out.2)));clear hb2)
    |(go_at_call 184;refine(HC0.out _ HB2.out.1).mono ?_;rintro en w3 ⟨c,rfl,hcel,hnew,hs⟩;have HS3:=yH (And.intro hcel (And.intro hnew (And.intro hs (hs.2.heap HB2.out.2.2 (by have:=HX.out;omega)))));clear hcel hnew hs)
    |(refine wpList_store_row (by rfl) 56 (.tmp 4) (.tmp 20) (by rfl) w.heap.size c.toArray (by rfl) (by rfl) 56 zeroN.toArray HS3.out.2.2.2 (by rw[node_info];simp[HS3.out.1.1.1]) (by simp[HS3.out.1.1.1,zeroN,ofC]) (all_oneCell_toArray HS3.out.1.1.2) ?_))
  (try simp only[Exit.inBlock,Exit.then])
  refine bodyPost_ret (ret_tree2 rfl (setRow_heap w3 w.heap.size zeroN.toArray _ 56 (0,0) HS3.out.2.2.2) HS3.out.1.1 rfl rfl) rfl ?_;exact co_some HX.out.2 HX.out.1 HB2.out.2.1 (gS.1 HB2.out.2.2).1 HS3.out.1 HS3.out.2.1 HS3.out.2.2.1
set_option maxHeartbeats 16000000 in
set_option maxRecDepth 10000 in
theorem pcompound_if {w0 w:World} {X:Nat} {S:PS} {br:Do} {d:Nat} (hc:CallDoR w0 185 br d) (h:Pr w0 w X S) (hi:S.is [105,102]=true):
    Calls Tryz.prog 156 #[.pointer (some ⟨X,0,none⟩),.int .i64 (d:Int)] w fun e w'=>CoEnd w0 w w' e X S (some (br S)):=by
  have HX:=yH h.base;have HP:=yH (h.new (below_new w ZN));have HN:=yH (pnext_any (h.new (below_new w ZN)));have HTX:=yH (fun W (hW:Below w0.heap.size w0 W) p k (hu:PsAt w0 (.slice p S.hd.word.length k) S.hd.word)=>text_any hW S.hd p k hu);rw[show textK S.hd= [105,102] by simpa [PS.is,PS.tx]using hi]at HTX;have HC0:=yH (fun W (hW:Pr w0 W X S)=>hc W X S hW);obtain⟨r,hr⟩:∃r,br S=r:=⟨_,rfl⟩;rw[hr]at HC0 ⊢;clear h hi hc hr;go_enter Tryz.func156,Tryz.ntmps156
  go_wp2_with (first
    |(go_at_call 45;refine HN.out.mono ?_;rintro en w1 ⟨p,k,rfl,hu,hb1⟩;have HB1:=yH (And.intro hb1 ((hb1.block w.heap.size (by simp)).trans (heap_alloc_new w ZN)));have HC:=yH (HTX.out _ (HP.out.new hb1).below p k hu);clear hb1 hu)
    |(go_at_call 104;refine HC.out.mono ?_;rintro en w2 ⟨rfl,hb2⟩;have HB2:=yH (And.intro ((HP.out.new HB1.out.1).new hb2) (And.intro (((below_new w ZN).trans (HB1.out.1.mono (by simp))).trans (hb2.mono (by have:=HB1.out.1.size;simp at this;omega))) ((hb2.block w.heap.size (gS.1 HB1.out.2).1).trans HB1.out.2)));clear hb2)
    |(go_at_call 185;refine(HC0.out _ HB2.out.1).mono ?_;rintro en w3 ⟨c,rfl,hcel,hnew,hs⟩;have HS3:=yH (And.intro hcel (And.intro hnew (And.intro hs (hs.2.heap HB2.out.2.2 (by have:=HX.out;omega)))));clear hcel hnew hs)
    |(refine wpList_store_row (by rfl) 56 (.tmp 4) (.tmp 25) (by rfl) w.heap.size c.toArray (by rfl) (by rfl) 56 zeroN.toArray HS3.out.2.2.2 (by rw[node_info];simp[HS3.out.1.1.1]) (by simp[HS3.out.1.1.1,zeroN,ofC]) (all_oneCell_toArray HS3.out.1.1.2) ?_))
  (try simp only[Exit.inBlock,Exit.then])
  refine bodyPost_ret (ret_tree2 rfl (setRow_heap w3 w.heap.size zeroN.toArray _ 56 (0,0) HS3.out.2.2.2) HS3.out.1.1 rfl rfl) rfl ?_;exact co_some HX.out.2 HX.out.1 HB2.out.2.1 (gS.1 HB2.out.2.2).1 HS3.out.1 HS3.out.2.1 HS3.out.2.2.1
set_option maxHeartbeats 16000000 in
set_option maxRecDepth 10000 in
theorem pcompound_while {w0 w:World} {X:Nat} {S:PS} {cmd:Do} {d:Nat} (hd:d≤100) (hc:CallDo w0 44 (listM cmd) (d+1)) (h:Pr w0 w X S) (hi:S.is [119,104,105,108,101]=true):
    Calls Tryz.prog 156 #[.pointer (some ⟨X,0,none⟩),.int .i64 (d:Int)] w fun e w'=>CoEnd w0 w w' e X S (some (loopM cmd [119,104,105,108,101] S)):=by
  have HX:=yH h.base;have HP:=yH (h.new (below_new w ZN));have HN:=yH (pnext_any (h.new (below_new w ZN)));have HTX:=yH (fun W (hW:Below w0.heap.size w0 W) p k (hu:PsAt w0 (.slice p S.hd.word.length k) S.hd.word)=>text_any hW S.hd p k hu);rw[show textK S.hd= [119,104,105,108,101] by simpa [PS.is,PS.tx]using hi]at HTX;have HC0:=yH (fun W (hW:Pr w0 W X S)=>ploop_any hd hc [119,104,105,108,101] W X S hW);obtain⟨r,hr⟩:∃r,loopM cmd [119,104,105,108,101] S=r:=⟨_,rfl⟩;rw[hr]at HC0 ⊢;clear h hi hc hr hd;go_enter Tryz.func156,Tryz.ntmps156
  go_wp2_with (first
    |(go_at_call 45;refine HN.out.mono ?_;rintro en w1 ⟨p,k,rfl,hu,hb1⟩;have HB1:=yH (And.intro hb1 ((hb1.block w.heap.size (by simp)).trans (heap_alloc_new w ZN)));have HC:=yH (HTX.out _ (HP.out.new hb1).below p k hu);clear hb1 hu)
    |(go_at_call 104;refine HC.out.mono ?_;rintro en w2 ⟨rfl,hb2⟩;have HB2:=yH (And.intro ((HP.out.new HB1.out.1).new hb2) (And.intro (((below_new w ZN).trans (HB1.out.1.mono (by simp))).trans (hb2.mono (by have:=HB1.out.1.size;simp at this;omega))) ((hb2.block w.heap.size (gS.1 HB1.out.2).1).trans HB1.out.2)));clear hb2)
    |(go_at_call 186;refine(HC0.out _ HB2.out.1).mono ?_;rintro en w3 ⟨c,rfl,hcel,hnew,hs⟩;have HS3:=yH (And.intro hcel (And.intro hnew (And.intro hs (hs.2.heap HB2.out.2.2 (by have:=HX.out;omega)))));clear hcel hnew hs)
    |(refine wpList_store_row (by rfl) 56 (.tmp 4) (.tmp 32) (by rfl) w.heap.size c.toArray (by rfl) (by rfl) 56 zeroN.toArray HS3.out.2.2.2 (by rw[node_info];simp[HS3.out.1.1.1]) (by simp[HS3.out.1.1.1,zeroN,ofC]) (all_oneCell_toArray HS3.out.1.1.2) ?_))
  (try simp only[Exit.inBlock,Exit.then])
  refine bodyPost_ret (ret_tree2 rfl (setRow_heap w3 w.heap.size zeroN.toArray _ 56 (0,0) HS3.out.2.2.2) HS3.out.1.1 rfl rfl) rfl ?_;exact co_some HX.out.2 HX.out.1 HB2.out.2.1 (gS.1 HB2.out.2.2).1 HS3.out.1 HS3.out.2.1 HS3.out.2.2.1
set_option maxHeartbeats 16000000 in
set_option maxRecDepth 10000 in
theorem pcompound_until {w0 w:World} {X:Nat} {S:PS} {cmd:Do} {d:Nat} (hd:d≤100) (hc:CallDo w0 44 (listM cmd) (d+1)) (h:Pr w0 w X S) (hi:S.is [117,110,116,105,108]=true):
    Calls Tryz.prog 156 #[.pointer (some ⟨X,0,none⟩),.int .i64 (d:Int)] w fun e w'=>CoEnd w0 w w' e X S (some (loopM cmd [117,110,116,105,108] S)):=by
  have HX:=yH h.base;have HP:=yH (h.new (below_new w ZN));have HN:=yH (pnext_any (h.new (below_new w ZN)));have HTX:=yH (fun W (hW:Below w0.heap.size w0 W) p k (hu:PsAt w0 (.slice p S.hd.word.length k) S.hd.word)=>text_any hW S.hd p k hu);rw[show textK S.hd= [117,110,116,105,108] by simpa [PS.is,PS.tx]using hi]at HTX;have HC0:=yH (fun W (hW:Pr w0 W X S)=>ploop_any hd hc [117,110,116,105,108] W X S hW);obtain⟨r,hr⟩:∃r,loopM cmd [117,110,116,105,108] S=r:=⟨_,rfl⟩;rw[hr]at HC0 ⊢;clear h hi hc hr hd;go_enter Tryz.func156,Tryz.ntmps156
  go_wp2_with (first
    |(go_at_call 45;refine HN.out.mono ?_;rintro en w1 ⟨p,k,rfl,hu,hb1⟩;have HB1:=yH (And.intro hb1 ((hb1.block w.heap.size (by simp)).trans (heap_alloc_new w ZN)));have HC:=yH (HTX.out _ (HP.out.new hb1).below p k hu);clear hb1 hu)
    |(go_at_call 104;refine HC.out.mono ?_;rintro en w2 ⟨rfl,hb2⟩;have HB2:=yH (And.intro ((HP.out.new HB1.out.1).new hb2) (And.intro (((below_new w ZN).trans (HB1.out.1.mono (by simp))).trans (hb2.mono (by have:=HB1.out.1.size;simp at this;omega))) ((hb2.block w.heap.size (gS.1 HB1.out.2).1).trans HB1.out.2)));clear hb2)
    |(go_at_call 186;refine(HC0.out _ HB2.out.1).mono ?_;rintro en w3 ⟨c,rfl,hcel,hnew,hs⟩;have HS3:=yH (And.intro hcel (And.intro hnew (And.intro hs (hs.2.heap HB2.out.2.2 (by have:=HX.out;omega)))));clear hcel hnew hs)
    |(refine wpList_store_row (by rfl) 56 (.tmp 4) (.tmp 32) (by rfl) w.heap.size c.toArray (by rfl) (by rfl) 56 zeroN.toArray HS3.out.2.2.2 (by rw[node_info];simp[HS3.out.1.1.1]) (by simp[HS3.out.1.1.1,zeroN,ofC]) (all_oneCell_toArray HS3.out.1.1.2) ?_))
  (try simp only[Exit.inBlock,Exit.then])
  refine bodyPost_ret (ret_tree2 rfl (setRow_heap w3 w.heap.size zeroN.toArray _ 56 (0,0) HS3.out.2.2.2) HS3.out.1.1 rfl rfl) rfl ?_;exact co_some HX.out.2 HX.out.1 HB2.out.2.1 (gS.1 HB2.out.2.2).1 HS3.out.1 HS3.out.2.1 HS3.out.2.2.1
set_option maxHeartbeats 16000000 in
set_option maxRecDepth 10000 in
theorem pcompound_for {w0 w:World} {X:Nat} {S:PS} {cmd:Do} {d:Nat} (hc:CallDoR w0 187 (eachM cmd) d) (h:Pr w0 w X S) (hi:S.is [102,111,114]=true):
    Calls Tryz.prog 156 #[.pointer (some ⟨X,0,none⟩),.int .i64 (d:Int)] w fun e w'=>CoEnd w0 w w' e X S (some (eachM cmd S)):=by
  have HX:=yH h.base;have HP:=yH (h.new (below_new w ZN));have HN:=yH (pnext_any (h.new (below_new w ZN)));have HTX:=yH (fun W (hW:Below w0.heap.size w0 W) p k (hu:PsAt w0 (.slice p S.hd.word.length k) S.hd.word)=>text_any hW S.hd p k hu);rw[show textK S.hd= [102,111,114] by simpa [PS.is,PS.tx]using hi]at HTX;have HC0:=yH (fun W (hW:Pr w0 W X S)=>hc W X S hW);obtain⟨r,hr⟩:∃r,eachM cmd S=r:=⟨_,rfl⟩;rw[hr]at HC0 ⊢;clear h hi hc hr;go_enter Tryz.func156,Tryz.ntmps156
  go_wp2_with (first
    |(go_at_call 45;refine HN.out.mono ?_;rintro en w1 ⟨p,k,rfl,hu,hb1⟩;have HB1:=yH (And.intro hb1 ((hb1.block w.heap.size (by simp)).trans (heap_alloc_new w ZN)));have HC:=yH (HTX.out _ (HP.out.new hb1).below p k hu);clear hb1 hu)
    |(go_at_call 104;refine HC.out.mono ?_;rintro en w2 ⟨rfl,hb2⟩;have HB2:=yH (And.intro ((HP.out.new HB1.out.1).new hb2) (And.intro (((below_new w ZN).trans (HB1.out.1.mono (by simp))).trans (hb2.mono (by have:=HB1.out.1.size;simp at this;omega))) ((hb2.block w.heap.size (gS.1 HB1.out.2).1).trans HB1.out.2)));clear hb2)
    |(go_at_call 187;refine(HC0.out _ HB2.out.1).mono ?_;rintro en w3 ⟨c,rfl,hcel,hnew,hs⟩;have HS3:=yH (And.intro hcel (And.intro hnew (And.intro hs (hs.2.heap HB2.out.2.2 (by have:=HX.out;omega)))));clear hcel hnew hs)
    |(refine wpList_store_row (by rfl) 56 (.tmp 4) (.tmp 37) (by rfl) w.heap.size c.toArray (by rfl) (by rfl) 56 zeroN.toArray HS3.out.2.2.2 (by rw[node_info];simp[HS3.out.1.1.1]) (by simp[HS3.out.1.1.1,zeroN,ofC]) (all_oneCell_toArray HS3.out.1.1.2) ?_))
  (try simp only[Exit.inBlock,Exit.then])
  refine bodyPost_ret (ret_tree2 rfl (setRow_heap w3 w.heap.size zeroN.toArray _ 56 (0,0) HS3.out.2.2.2) HS3.out.1.1 rfl rfl) rfl ?_;exact co_some HX.out.2 HX.out.1 HB2.out.2.1 (gS.1 HB2.out.2.2).1 HS3.out.1 HS3.out.2.1 HS3.out.2.2.1
set_option maxHeartbeats 16000000 in
set_option maxRecDepth 10000 in
theorem pcompound_case {w0 w:World} {X:Nat} {S:PS} {cmd:Do} {d:Nat} (hc:CallDoR w0 188 (choiceM cmd) d) (h:Pr w0 w X S) (hi:S.is [99,97,115,101]=true):
    Calls Tryz.prog 156 #[.pointer (some ⟨X,0,none⟩),.int .i64 (d:Int)] w fun e w'=>CoEnd w0 w w' e X S (some (choiceM cmd S)):=by
  have HX:=yH h.base;have HP:=yH (h.new (below_new w ZN));have HN:=yH (pnext_any (h.new (below_new w ZN)));have HTX:=yH (fun W (hW:Below w0.heap.size w0 W) p k (hu:PsAt w0 (.slice p S.hd.word.length k) S.hd.word)=>text_any hW S.hd p k hu);rw[show textK S.hd= [99,97,115,101] by simpa [PS.is,PS.tx]using hi]at HTX;have HC0:=yH (fun W (hW:Pr w0 W X S)=>hc W X S hW);obtain⟨r,hr⟩:∃r,choiceM cmd S=r:=⟨_,rfl⟩;rw[hr]at HC0 ⊢;clear h hi hc hr;go_enter Tryz.func156,Tryz.ntmps156
  go_wp2_with (first
    |(go_at_call 45;refine HN.out.mono ?_;rintro en w1 ⟨p,k,rfl,hu,hb1⟩;have HB1:=yH (And.intro hb1 ((hb1.block w.heap.size (by simp)).trans (heap_alloc_new w ZN)));have HC:=yH (HTX.out _ (HP.out.new hb1).below p k hu);clear hb1 hu)
    |(go_at_call 104;refine HC.out.mono ?_;rintro en w2 ⟨rfl,hb2⟩;have HB2:=yH (And.intro ((HP.out.new HB1.out.1).new hb2) (And.intro (((below_new w ZN).trans (HB1.out.1.mono (by simp))).trans (hb2.mono (by have:=HB1.out.1.size;simp at this;omega))) ((hb2.block w.heap.size (gS.1 HB1.out.2).1).trans HB1.out.2)));clear hb2)
    |(go_at_call 188;refine(HC0.out _ HB2.out.1).mono ?_;rintro en w3 ⟨c,rfl,hcel,hnew,hs⟩;have HS3:=yH (And.intro hcel (And.intro hnew (And.intro hs (hs.2.heap HB2.out.2.2 (by have:=HX.out;omega)))));clear hcel hnew hs)
    |(refine wpList_store_row (by rfl) 56 (.tmp 4) (.tmp 42) (by rfl) w.heap.size c.toArray (by rfl) (by rfl) 56 zeroN.toArray HS3.out.2.2.2 (by rw[node_info];simp[HS3.out.1.1.1]) (by simp[HS3.out.1.1.1,zeroN,ofC]) (all_oneCell_toArray HS3.out.1.1.2) ?_))
  (try simp only[Exit.inBlock,Exit.then])
  refine bodyPost_ret (ret_tree2 rfl (setRow_heap w3 w.heap.size zeroN.toArray _ 56 (0,0) HS3.out.2.2.2) HS3.out.1.1 rfl rfl) rfl ?_;exact co_some HX.out.2 HX.out.1 HB2.out.2.1 (gS.1 HB2.out.2.2).1 HS3.out.1 HS3.out.2.1 HS3.out.2.2.1
theorem TrC.redirs {W:World} {c:List Value} {t:Tr} (h:TrC W c t) {rv:Value} {rs:List (List UInt8×List Pt)} (hr:AsAt W rv rs):TrC W (c.set 6 rv) (.mk { t.node with redirs:=rs } t.kids):=by
  cases h with
  |mk n kids cs kp kc css h1 h2 h3 h4 h5=>
    obtain⟨hk,wv,pv,av,rv0,rfl,a1,a2,a3,a4⟩:=h1;exact .mk { n with redirs:=rs } kids [txt n.op,txt n.name,.slice none 0 0,wv,pv,av,rv] kp kc css ⟨hk,wv,pv,av,rv,rfl,a1,a2,a3,hr⟩ h2 h3 h4 h5
theorem set6_cel {c:List Value} (h:Cel 8 c) (p:Option Addr) (n k:Nat):Cel 8 (c.set 6 (.slice p n k)):=⟨by rw[List.length_set];exact h.1,fun v hv=>by
  rcases List.mem_or_eq_of_mem_set hv with hv|hv
  · exact h.2 v hv
  · rw[hv];rfl⟩
theorem set6_get {c:List Value} (h:Cel 8 c) (v:Value):(c.set 6 v).toArray[6]? =some v:=by
  have:=h.1;simp only[List.getElem?_toArray];rw[List.getElem?_set_self (by omega)]
theorem set6_set (c:List Value) (u v:Value):(c.set 6 u).toArray.setIfInBounds 6 v=(c.set 6 v).toArray:=by
  rw[List.setIfInBounds_toArray,List.set_set]
theorem set6_same {c:List Value} {v:Value} (h:c[6]? =some v):c.set 6 v=c:=by
  obtain⟨h1,h2⟩:=List.getElem?_eq_some_iff.1 h;rw[←h2];exact List.set_getElem_self h1
structure CmO (w0 w wr:World) (X Y:Nat) (c:List Value) (t:Tr) (Ft:Nat→Prop) (p:Option Addr) (k:Nat) (css:List (List Value)) (rs:List (List UInt8×List Pt)) (F:Nat→Prop) (M:Nat) (S:PS):Prop where
  max:M≤5000
  box:BxO w0 w wr X Y (c.set 6 (.slice p rs.length k)).toArray 56 S
  cel:Cel 8 c
  tree:Stays w0 wr Ft fun W=>TrC W c t
  far:∀i,Ft i→w.heap.size<i∧i<Y
  row:RowG w0 wr 103 2 PairP (Y+1) (.slice p rs.length k) css rs F
  few:rs.length+S.ts.length≤M
section
variable {w0 w wr w1 : World} {X Y : Nat} {c : List Value} {t : Tr} {Ft : Nat → Prop} {p : Option Addr} {k : Nat} {css : List (List Value)} {rs : List (List UInt8 × List Pt)} {F : Nat → Prop} {M M' : Nat} {S S' : PS}
theorem CmO.step (h:CmO w0 w wr X Y c t Ft p k css rs F M S) (hX:X<w.heap.size) (hs:PStep w0 wr w1 X S') (hM:M'≤5000) (hl:S'.ts.length+M≤S.ts.length+M'):CmO w0 w w1 X Y c t Ft p k css rs F M' S':=by
  have hb:=h.box.base;have hlt:=h.box.lt;exact⟨hM,h.box.step hX hs,h.cel,h.tree.same fun i hi=>hs.2.block i (by have:=(h.far i hi).2;omega) (by have:=(h.far i hi).1;omega),h.far,h.row.kept hs.2 (fun i hi=>by have:=(h.row.lt i hi).1;omega),by have:=h.few;omega⟩
theorem CmO.new (h:CmO w0 w wr X Y c t Ft p k css rs F M S) (hX:X<w.heap.size) (hb:Below wr.heap.size wr w1):CmO w0 w w1 X Y c t Ft p k css rs F M S:=h.step hX ⟨h.box.pr.new hb,Kept.of_below hb⟩ h.max (Nat.le_refl _)
theorem CmO.push {p':Option Addr} {k':Nat} {cs:List Value} {y:List UInt8×List Pt} {F':Nat→Prop} (h:CmO w0 w wr X Y c t Ft p k css rs F M S) (hM:M+1≤5000) (hX:X<w.heap.size) (hX0:w0.heap.size≤X)
    (hr:RowG w0 w1 103 2 PairP (Y+1) (.slice p' (rs.length+1) k') (css++ [cs]) (rs++ [y]) F') (hk:Kept (fun i=>(Value.slice p rs.length k).ownBlock=some i) wr w1):
    CmO w0 w (w1.setCell ⟨Y,6,none⟩ (.slice p' (rs.length+1) k')) X Y c t Ft p' k' (css++ [cs]) (rs++ [y]) F' (M+1) S:=by
  have hb:=h.box.base;have hlt:=h.box.lt;have hn:(rs++ [y]).length=rs.length+1:=(by rw[List.length_append];rfl);have hown:∀i,(Value.slice p rs.length k).ownBlock=some i→Y<i:=fun i hi=>(h.row.lt i (.inr hi)).1;have hk2:Kept (fun i=>i=Y) w1 (w1.setCell ⟨Y,6,none⟩ (.slice p' (rs.length+1) k')):=(Kept.refl (fun i=>i=Y) w1).setCell (p:=⟨Y,6,none⟩) (.inl rfl) _;have hw1:=hk.size;refine⟨hM,?_,h.cel,?_,h.far,?_,by rw[hn];have:=h.few;omega⟩
  · have:=(h.box.turn hX hX0 hk (fun i hi=>hown i hi)).set hX hX0 6 (.slice p' (rs.length+1) k')
    rw[set6_set]at this;rw[hn];exact this
  · exact(h.tree.same fun i hi=>hk.block i (by have:=(h.far i hi).2;omega) (fun e=>by have:=hown i e;have:=(h.far i hi).2;omega)).same fun i hi=>hk2.block i (by have:=(h.far i hi).2;omega) (by have:=(h.far i hi).2;omega)
  · rw[hn]
    exact hr.kept hk2 fun i hi=>by have:=(hr.lt i hi).1;omega
theorem CmO.cell6 (h:CmO w0 w wr X Y c t Ft p k css rs F M S):wr.cell? ⟨Y,6,none⟩=some (.slice p rs.length k):=by rw[cell_plain h.box.box];exact set6_get h.cel _
theorem CmO.end_ (h:CmO w0 w wr X Y c t Ft p k css rs F M S):NewAt w0 wr (w.heap.size+1) fun W=>TrC W (c.set 6 (.slice p rs.length k)) (.mk { t.node with redirs:=rs } t.kids):=by
  have hb:=h.box.base;have hlt:=h.box.lt;have h1:NewAt w0 wr (w.heap.size+1) fun W=>TrC W c t:=⟨Ft,fun i hi=>⟨(h.far i hi).1,by have:=(h.far i hi).2;omega⟩,h.tree⟩;have h2:=(h.row.sl (by have:=h.few;have:=h.max;unfold maxLen;omega)).base (C:=w.heap.size+1) (by omega);exact(h1.and h2).imp fun W hW=>hW.1.redirs hW.2
end
theorem redirsL_go {f:Nat} {n:Nd} {S:PS} (h:S.isRedir=true):redirsL (f+1) n S=redirsL f { n with redirs:=n.redirs++ [(redirM S).1] } (redirM S).2:=by rw[redirsL,if_pos h]
theorem redirsL_end {f:Nat} {n:Nd} {S:PS} (h:S.isRedir=false):redirsL (f+1) n S=(n,S):=by rw[redirsL,if_neg (by rw[h];decide)]
def cmdAt (fn:Do) (m:Option (Tr×PS)) (S:PS):Tr×PS:=if S.isFun then fn S else match m with
  |some r=>redirsM r
  |none=>simpleM S
theorem CmO.first {w0 w w0' w1:World} {X:Nat} {c:List Value} {r:Tr×PS} (hc:Cel 8 c∧c[6]? =some (.slice none 0 0)∧r.1.node.redirs= []) (hn:NewAt w0 w1 w0'.heap.size fun W=>TrC W c r.1) (hB:w.heap.size<w0'.heap.size) (hpr:Pr w0 w1 X r.2) (hz:w1.heap[w.heap.size]? =some ZN) (hk:Kept (fun i=>i=X) w w1):
    ∃Ft,CmO w0 w (w1.alloc (.cells c.toArray 56)) X w1.heap.size c r.1 Ft none 0 [] [] (fun _=>False) 4002 r.2:=by
  obtain⟨Ft,f1,f2⟩:=hn;have hl:=(gS.1 hz).1;refine⟨Ft,by decide,⟨?_,hl,hpr.new (below_new _ _),kept_alloc2 hz _,hk.on (Kept.of_below (below_new _ _))⟩,hc.1,f2.same fun i hi=>Below.heap_alloc _ _ _ (f1 i hi).2,fun i hi=>⟨by have:=(f1 i hi).1;omega,(f1 i hi).2⟩,RowG.nil _ _ _ _ _ _,by have:=hpr.good.few;simp;omega⟩;show(w1.alloc _).heap[w1.heap.size]? =some (Obj.cells (c.set 6 (.slice none 0 0)).toArray _ _);rw[set6_same hc.2.1];exact heap_alloc_new w1 _
set_option maxHeartbeats 16000000 in
set_option maxRecDepth 10000 in
theorem pcommand_any {w0 w:World} {X:Nat} {S S0:PS} {d:Nat} {fn:Do} {m:Option (Tr×PS)} (h:Pr w0 w X S) (h0:S0=if 20≤d then S.fail 3 else S) (hf:S0.isFun=true→CallDo w0 155 fn d)
    (hc:∀W,Pr w0 W X S0→Calls Tryz.prog 156 #[.pointer (some ⟨X,0,none⟩),.int .i64 (d:Int)] W fun e w'=>CoEnd w0 W w' e X S0 m):
    Calls Tryz.prog 130 #[.pointer (some ⟨X,0,none⟩),.int .i64 (d:Int)] w fun e w'=>TrEnd w0 w w' e X (cmdAt fn m S0):=by
  have HX:=yH h.base;have HBG:=yH (show Calls _ _ _ _ (fun e w'=>_∧PStep w0 (w.alloc ZN) w' X S0)from by rw[h0];exact pbegin_any (h.new (below_new w ZN)) d);have HIF:=yH (fun W (hW:Pr w0 W X S0)=>pisFun_any hW);have HF:=yH hf;have HC:=yH hc;obtain⟨D,hD⟩:∃D:Int,(d:Int)=D:=⟨_,rfl⟩;have HD:=yH hD;rw[hD]at HC HBG ⊢;clear h h0 hf hc hD
  cases h1:S0.isFun with
  |true=>
    rw[h1]at HIF;have HE:=yH (show cmdAt fn m S0=fn S0 from by unfold cmdAt;rw[if_pos h1]);have HFC:=yH (HF.out h1);clear h1;go_enter Tryz.func130,Tryz.ntmps130
    go_wp2_with (first
      |(go_at_call 153;refine HBG.out.mono ?_;rintro en w1 ⟨rfl,hs⟩;have HS1:=yH (And.intro hs (hs.2.heap (heap_alloc_new w ZN) (by have:=HX.out;omega)));clear hs)
      |(go_at_call 154;refine(HIF.out _ HS1.out.1.1).mono ?_;rintro en w2 ⟨rfl,hb⟩;have HS2:=yH (And.intro (HS1.out.1.new hb) ((hb.block w.heap.size (gS.1 HS1.out.2).1).trans HS1.out.2));clear hb)
      |(go_at_call 155;rw[←HD.out];refine(HFC.out _ X S0 HS2.out.1.1).mono ?_;rintro en w3 ⟨c,rfl,hcel,hnew,hs⟩;have HS3:=yH (And.intro hcel (And.intro hnew (And.intro hs (hs.2.heap HS2.out.2 (by have:=HX.out;omega)))));clear hcel hnew hs)
      |(refine wpList_store_row (by rfl) 56 (.tmp 4) (.tmp 14) (by rfl) w.heap.size c.toArray (by rfl) (by rfl) 56 zeroN.toArray HS3.out.2.2.2 (by rw[node_info];simp[HS3.out.1.1]) (by simp[HS3.out.1.1,zeroN,ofC]) (all_oneCell_toArray HS3.out.1.2) ?_))
    (try simp only[Exit.inBlock,Exit.then])
    refine bodyPost_ret (ret_tree rfl (setRow_heap w3 w.heap.size zeroN.toArray _ 56 (0,0) HS3.out.2.2.2) HS3.out.1 rfl) rfl ?_;rw[HE.out];have hk:=kept_row0 w3 w.heap.size c.toArray;have hx:=HX.out;have hl2:=(gS.1 HS2.out.2).1;exact⟨c,rfl,HS3.out.1,(HS3.out.2.1.kept hk (fun k h1 h2=>by omega)).base (by omega),HS3.out.2.2.1.1.kept hk (by omega) (fun i hi=>by omega),(((Kept.of_below (below_new w ZN)).on HS2.out.1.2).on HS3.out.2.2.1.2).trans hk fun i hi=> .inr (by omega)⟩
  |false=>
    rw[h1]at HIF
    cases m with
    |none=>
      have HE:=yH (show cmdAt fn none S0=simpleM S0 from by unfold cmdAt;rw[if_neg (by rw[h1];decide)]);clear h1 HF;go_enter Tryz.func130,Tryz.ntmps130
      go_wp2_with (first
        |(go_at_call 153;refine HBG.out.mono ?_;rintro en w1 ⟨rfl,hs⟩;have HS1:=yH (And.intro hs (hs.2.heap (heap_alloc_new w ZN) (by have:=HX.out;omega)));clear hs)
        |(go_at_call 154;refine(HIF.out _ HS1.out.1.1).mono ?_;rintro en w2 ⟨rfl,hb⟩;have HS2:=yH (And.intro (HS1.out.1.new hb) ((hb.block w.heap.size (gS.1 HS1.out.2).1).trans HS1.out.2));clear hb)
        |(go_at_call 156;refine(HC.out _ HS2.out.1.1).mono ?_;rintro en w3 ⟨rfl,hs⟩;have HS3:=yH (And.intro hs (hs.2.heap HS2.out.2 (by have:=HX.out;omega)));clear hs)
        |(refine wpList_store_row (by rfl) 56 (.tmp 5) (.tmp 19) (by rfl) w3.heap.size zeroN.toArray (by rfl) (by rfl) 56 zeroN.toArray (heap_alloc_new w3 _) (by rw[node_info];rfl) rfl (all_oneCell_toArray (ofC_cel _ _ _ _).2) ?_;rw[World.setRow_alloc_new];obtain⟨w4,hw4⟩:∃w4,w4=w3.alloc (.cells zeroN.toArray 56):=⟨_,rfl⟩;rw[←hw4];have HS4:=yH (show Below w3.heap.size w3 w4∧w4.heap[w.heap.size]? =some ZN from by rw[hw4];exact⟨below_new _ _,kept_alloc2 HS3.out.2 _⟩);clear hw4)
        |(go_at_call 157;refine(psimple_any (HS3.out.1.1.new HS4.out.1)).mono ?_;rintro en w5 ⟨c,rfl,hcel,hnew,hs⟩;have HS5:=yH (And.intro hcel (And.intro (hnew.base (C:=w2.heap.size) (by have:=HS4.out.1.size;have:=HS3.out.1.2.size;omega)) (And.intro (HS3.out.1.trans ((PStep.ahead HS4.out.1 hs))) (hs.2.heap HS4.out.2 (by have:=HX.out;omega)))));clear hcel hnew hs)
        |(refine wpList_store_row (by rfl) 56 (.tmp 4) (.tmp 24) (by rfl) w.heap.size c.toArray (by rfl) (by rfl) 56 zeroN.toArray HS5.out.2.2.2 (by rw[node_info];simp[HS5.out.1.1]) (by simp[HS5.out.1.1,zeroN,ofC]) (all_oneCell_toArray HS5.out.1.2) ?_))
      (try simp only[Exit.inBlock,Exit.then])
      refine bodyPost_ret (ret_tree rfl (setRow_heap w5 w.heap.size zeroN.toArray _ 56 (0,0) HS5.out.2.2.2) HS5.out.1 rfl) rfl ?_;rw[HE.out];have hk:=kept_row0 w5 w.heap.size c.toArray;have hx:=HX.out;have hl2:=(gS.1 HS2.out.2).1;exact⟨c,rfl,HS5.out.1,(HS5.out.2.1.kept hk (fun k h1 h2=>by omega)).base (by omega),HS5.out.2.2.1.1.kept hk (by omega) (fun i hi=>by omega),(((Kept.of_below (below_new w ZN)).on HS2.out.1.2).on HS5.out.2.2.1.2).trans hk fun i hi=> .inr (by omega)⟩
    |some r=>
      obtain⟨q,hq⟩:∃q,redirsL r.2.ts.length { r.1.node with redirs:= [] } r.2=q:=⟨_,rfl⟩
      have HEQ:=yH (show r.1.node.redirs= []→cmdAt fn (some r) S0=(.mk q.1 r.1.kids,q.2)from fun hr=>by
        unfold cmdAt;rw[if_neg (by rw[h1];decide)];show redirsM r=_;unfold redirsM
        rw[←hq,show({ r.1.node with redirs:= [] } :Nd)=r.1.node by rw[←hr]])
      have HQ:=yH hq;clear h1 HF hq;go_enter Tryz.func130,Tryz.ntmps130
      go_wp2_with (first
        |(go_at_call 153;refine HBG.out.mono ?_;rintro en w1 ⟨rfl,hs⟩;have HS1:=yH (And.intro hs (hs.2.heap (heap_alloc_new w ZN) (by have:=HX.out;omega)));clear hs)
        |(go_at_call 154;refine(HIF.out _ HS1.out.1.1).mono ?_;rintro en w2 ⟨rfl,hb⟩;have HS2:=yH (And.intro (HS1.out.1.new hb) ((hb.block w.heap.size (gS.1 HS1.out.2).1).trans HS1.out.2));clear hb)
        |(go_at_call 156;refine(HC.out _ HS2.out.1.1).mono ?_;rintro en w3 ⟨c,rfl,hcel,hnew,hs⟩;have HS3:=yH (And.intro hcel (And.intro hnew (And.intro hs (hs.2.heap HS2.out.2 (by have:=HX.out;omega)))));clear hcel hnew hs)
        |(refine wpList_store_row (by rfl) 56 (.tmp 5) (.tmp 19) (by rfl) w3.heap.size c.toArray (by rfl) (by rfl) 56 zeroN.toArray (heap_alloc_new w3 _) (by rw[node_info];simp[HS3.out.1.1.1]) (by simp[HS3.out.1.1.1,zeroN,ofC]) (all_oneCell_toArray HS3.out.1.1.2) ?_;rw[World.setRow_alloc_new];obtain⟨Ft,hA⟩:=CmO.first (w:=w) HS3.out.1 HS3.out.2.1 (gS.1 HS2.out.2).1 HS3.out.2.2.1.1 HS3.out.2.2.2 (((Kept.of_below (below_new w ZN)).on HS2.out.1.2).on HS3.out.2.2.1.2);obtain⟨w4,hw4⟩:∃w4,w4=w3.alloc (.cells c.toArray 56):=⟨_,rfl⟩;rw[←hw4]at hA ⊢;have HA:=yH hA;clear hA hw4))
      obtain⟨Y,hY⟩:∃Y,w3.heap.size=Y:=⟨_,rfl⟩;rw[hY]at HA;have HE2:=yH (HEQ.out HS3.out.1.2.2)
      (try simp only[Act.put])
      rw[hY];clear hY
      go_loopw [] (fun wr=> ∃f p k css rs F S',CmO w0 w wr X Y c r.1 Ft p k css rs F 4002 S'∧redirsL f { r.1.node with redirs:=rs } S'=q∧S'.ts.length≤f) (fun wr=>psLen wr X)
      case atStart=>exact⟨_,_,_,_,_,_,_,HA.out,HQ.out,Nat.le_refl _⟩
      case round=>
        obtain⟨f,p,k,css,rs,F,S',hL,hm,hf⟩:=hrel;have hpos:=hL.box.pr.good.pos;obtain⟨f,rfl⟩:∃g,f=g+1:=⟨f-1,by omega⟩;have HRD:=yH (pisRedir_any hL.box.pr);have HS:=yH (And.intro hL (And.intro hm hf));obtain⟨nr,hnr⟩:∃x,rs.length=x:=⟨_,rfl⟩;have HNR:=yH hnr;clear hL hm hf hpos hnr
        cases hi:S'.isRedir with
        |true=>
          rw[hi]at HRD;have HI:=yH hi;clear hi;obtain⟨y,hy⟩:∃y,(redirM S').1=y:=⟨_,rfl⟩;have HY:=yH hy;have HRE:=yH (fun W (hW:Pr w0 W X S')=>predir_any hW);rw[hy]at HRE;obtain⟨yl,hyl⟩:∃x,y.2.length=x:=⟨_,rfl⟩;obtain⟨yt,hyt⟩:∃x,T y.1=x:=⟨_,rfl⟩;have HYT:=yH hyt;rw[hyl,hyt]at HRE;have HLT:=yH (redir_lt HS.out.1.box.pr.good HI.out);clear hy hyl hyt
          go_wp2_with (go_at_call 158;refine HRD.out.mono ?_;rintro en w5 ⟨rfl,hb⟩;have HL5:=yH (HS.out.1.new HX.out.2 hb);clear hb)
          refine regionL (S:=(fun W=>W.cell? ⟨Y,6,none⟩=some (.slice p nr k))) (L:=9) (by kernel_rfl) ?_ (fun hHeld=> ?_)
          · exact(by have:=(HL5.out.new HX.out.2 (below_drewA w5)).cell6;rwa [HNR.out]at this)
          refine tkL 0 27 rfl rfl ?_ ?_ ?_;rotate_left
          · intro _ _;go_simp<;>(with_reducible rfl)
          simp only[pS];refine tkL 1 28 rfl rfl ?_ ?_ ?_;rotate_left
          · intro _ _;go_simp<;>(with_reducible rfl)
          simp only[pS];refine tkL 2 29 rfl rfl ?_ ?_ ?_;rotate_left
          · intro _ _;go_simp<;>(with_reducible rfl)
          simp only[pS];refine tkL 3 30 rfl rfl ?_ ?_ ?_;rotate_left
          · intro _ _;go_simp<;>(with_reducible rfl)
          simp only[pS];refine nxL 4 rfl (fun K hK=> ?_);go_simp
          go_wp2_with (go_at_call 159;refine(HRE.out _ (HL5.out.new HX.out.2 (below_drewA w5)).box.pr).mono ?_;rintro en w6 ⟨p6,k6,rfl,hu,hs⟩;have HL6:=yH (And.intro hu ((HL5.out.new HX.out.2 (below_drewA w5)).step (M':=4001) HX.out.2 hs (by decide) (by have:=HLT.out;omega)));clear hs hu)
          refine hK.out _ _ ?_ ?_
          · exact .inr (by have:=HL6.out.2.cell6;rwa [HNR.out]at this)
          clear hK K;refine nxL 5 rfl (fun K hK=> ?_);refine wp_one elRedir (.tmp 31) rfl _ [.string yt,.slice p6 yl k6] rfl (pair_cel _ _ _ _) rfl ?_;refine hK.out _ _ ?_ ?_
          · exact .inr (by have:=(HL6.out.2.new HX.out.2 (below_new w6 (.cells [.string yt,.slice p6 yl k6].toArray 103))).cell6;rwa [HNR.out]at this)
          clear hK K;simp only[Act.put,List.getElem_toArray,List.getElem_cons_succ,List.getElem_cons_zero,pS];refine nxL 6 rfl (fun K hK=> ?_);refine wp_push elRedir (.tmp 29) (.tmp 32) rfl HL6.out.2.row (pair_cel _ _ _ _) (y:=y) (C:=w6.heap.size) (NewAt.of0 fun W hW=>⟨_,by rw[←HYT.out];rfl,HL6.out.1.stays hW⟩) HL6.out.2.box.lt (fun k hk=>(HL6.out.2.row.lt k (.inr hk)).2) (by have:=HL6.out.2.few;omega) (by rw[HNR.out];rfl) rfl HL6.out.2.box.lt ?_;intro p8 c8 F8 w8 hr8 hF8 hat8 hk8;have HS8:=yH (And.intro hr8 hk8);have HB8:=yH (HL6.out.2.box.turn HX.out.2 HX.out.1 hk8 (fun k hk=>(HL6.out.2.row.lt k (.inr hk)).1));have HC8:=yH (show w8.cell? ⟨Y,6,none⟩=some (.slice p nr k)from by rw[cell_plain HB8.out.box,←HNR.out];exact set6_get HL6.out.2.cel _);clear hr8 hF8 hat8 hk8;refine hK.out _ _ ?_ ?_
          · exact .inr HC8.out
          clear hK K;simp only[Act.put,List.getElem_toArray,List.getElem_cons_succ,List.getElem_cons_zero,pS];refine nxL 7 rfl (fun K hK=> ?_);go_simp;refine hK.out _ _ ?_ ?_
          · exact .inr HC8.out
          clear hK K;refine nxL 8 rfl (fun K hK=> ?_);go_simp;refine hK.out _ _ ?_ ?_
          · exact .inr HC8.out
          clear hK K;refine nxL 9 rfl (fun K hK=> ?_);have d3:=HC8.out;have e3:w8.frozen? ⟨Y,6,none⟩=false:=frozen_plain HB8.out.box 6;go_simp;refine hK.out _ _ ?_ ?_
          · exact .inl (by kernel_rfl)
          clear hK K;refine doneL (by kernel_rfl) ?_ _;have HP:=yH (HL6.out.2.push (by decide) HX.out.2 HX.out.1 HS8.out.1 HS8.out.2);go_wp2_with fail
          go_roundw
          case rel=>exact⟨f,_,_,_,_,_,_,HP.out,by rw[←HY.out,←HS.out.2.1,redirsL_go HI.out],by have:=HS.out.2.2;have:=HLT.out;omega⟩
          case measure=>rw[HP.out.box.pr.len,HS.out.1.box.pr.len];exact HLT.out
        |false=>
          rw[hi]at HRD;have HE:=yH (show cmdAt fn (some r) S0=(.mk { r.1.node with redirs:=rs } r.1.kids,S')from by rw[HE2.out,←HS.out.2.1,redirsL_end hi]);clear hi
          go_wp2_with (first
            |(go_at_call 158;refine HRD.out.mono ?_;rintro en w5 ⟨rfl,hb⟩;have HL5:=yH (HS.out.1.new HX.out.2 hb);clear hb)
            |(refine wpList_load_row (by rfl) 56 (.tmp 5) (by rfl) Y (by rfl) 56 (c.set 6 (.slice p rs.length k)).toArray (0,0) _ HL5.out.box.box Tryz.underlying56 rfl (by rw[node_info];simp[HL5.out.cel.1]) ?_)
            |(refine wpList_store_row (by rfl) 56 (.tmp 4) (.tmp 36) (by rfl) w.heap.size (c.set 6 (.slice p rs.length k)).toArray (by rfl) (by rfl) 56 zeroN.toArray HL5.out.box.zero (by rw[node_info];simp[HL5.out.cel.1]) (by simp[HL5.out.cel.1,zeroN,ofC]) (all_oneCell_toArray (set6_cel HL5.out.cel _ _ _).2) ?_))
          (try simp only[Exit.inBlock,Exit.then])
          refine bodyPost_ret (ret_tree rfl (setRow_heap w5 w.heap.size zeroN.toArray _ 56 (0,0) HL5.out.box.zero) (set6_cel HL5.out.cel _ _ _) rfl) rfl ?_;rw[HE.out];exact HL5.out.box.ret HX.out.2 HX.out.1 (set6_cel HL5.out.cel _ _ _) HL5.out.end_
def heldAt (m:Option (Tr×PS)) (S:PS):Tr×PS:=match m with
  |some r=>r
  |none=>(tr0,S)
theorem zero_tree {w0 w:World} (B:Nat):NewAt w0 w B fun W=>TrC W zeroN tr0:=
  NewAt.of0 fun W _=> .mk nd0 [] [txt [],txt [],.slice none 0 0,.slice none 0 0,.slice none 0 0,.slice none 0 0,.slice none 0 0] none 0 [] ⟨rfl,_,_,_,_,rfl,SlAt.nil _ _ _ _,SlAt.nil _ _ _ _,SlAt.nil _ _ _ _,SlAt.nil _ _ _ _⟩ rfl (by simp) (fun _ _ h=>by simp at h) (fun _ _ _ h=>by simp at h)
set_option maxHeartbeats 8000000 in
set_option maxRecDepth 10000 in
theorem pheld_any {w0 w:World} {X:Nat} {S S0 S1:PS} {d:Nat} {m:Option (Tr×PS)} (h:Pr w0 w X S) (h0:S0=if 20≤d then S.fail 3 else S) (h1:S1=if S0.is [123]||S0.is [40]then S0 else S0.fail 2)
    (hc:∀W,Pr w0 W X S1→Calls Tryz.prog 156 #[.pointer (some ⟨X,0,none⟩),.int .i64 (d:Int)] W fun e w'=>CoEnd w0 W w' e X S1 m):
    Calls Tryz.prog 183 #[.pointer (some ⟨X,0,none⟩),.int .i64 (d:Int)] w fun e w'=>TrEnd w0 w w' e X (heldAt m S1):=by
  have HX:=yH h.base;have HBG:=yH (show Calls _ _ _ _ (fun e w'=>_∧PStep w0 (w.alloc ZN) w' X S0)from by rw[h0];exact pbegin_any (h.new (below_new w ZN)) d);have HIA:=yH (fun W (hW:Pr w0 W X S0)=>pis_any hW [123]);have HIB:=yH (fun W (hW:Pr w0 W X S0)=>pis_any hW [40])
  have HC:=yH (show ∀W,Pr w0 W X S1→Calls Tryz.prog 156 #[.pointer (some ⟨X,0,none⟩),.int .i64 (d:Int)] W fun e w'=> ∃c b,e= .returned (.tuple #[.agg c.toArray,.bool b])∧Cel 8 c∧NewAt w0 w' W.heap.size (fun V=>TrC V c (heldAt m S1).1)∧PStep w0 W w' X (heldAt m S1).2 from fun W hW=>(hc W hW).mono fun e w' he=>by
    cases m with
    |none=>exact⟨zeroN,false,he.1,ofC_cel _ _ _ _,zero_tree _,he.2⟩
    |some r=>
      obtain⟨c,he,hcc,hn,hs⟩:=he
      exact⟨c,true,he,hcc.1,hn,hs⟩)
  obtain⟨r,hr⟩:∃r,heldAt m S1=r:=⟨_,rfl⟩;rw[hr]at HC ⊢;obtain⟨D,hD⟩:∃D:Int,(d:Int)=D:=⟨_,rfl⟩;rw[hD]at HC HBG ⊢;have H1:=yH h1;clear h h0 h1 hc hr hD
  cases ha:S0.is [123]with
  |true=>
    rw[ha]at HIA;have HE:=yH (show S0=S1 from by rw[H1.out,ha];rfl);clear ha;go_enter Tryz.func183,Tryz.ntmps183
    go_wp2_with (first
      |(go_at_call 153;refine HBG.out.mono ?_;rintro en w1 ⟨rfl,hs⟩;have HS1:=yH (And.intro hs.1 (And.intro (hs.2.heap (heap_alloc_new w ZN) (by have:=HX.out;omega)) ((Kept.of_below (D:=fun k=>k=X) (below_new w ZN)).on hs.2)));have HPR:=yH hs.1;clear hs)
      |(go_at_call 129;(with_reducible refine(HIA.out _ HPR.out).mono ?_);rintro en w2 ⟨rfl,hb⟩;have HS2:=yH (And.intro (HS1.out.1.new hb) (And.intro ((hb.block w.heap.size (gS.1 HS1.out.2.1).1).trans HS1.out.2.1) (HS1.out.2.2.on (Kept.of_below hb))));have HPR2:=yH (HS1.out.1.new hb);clear hb)
      |(go_at_call 156;refine(HC.out _ (HE.out▸HS2.out.1)).mono ?_;rintro en w5 ⟨c,bb,rfl,hcel,hnew,hs⟩;have HS5:=yH (And.intro hcel (And.intro hnew (And.intro hs (And.intro (hs.2.heap HS2.out.2.1 (by have:=HX.out;omega)) (HS2.out.2.2.on hs.2)))));clear hcel hnew hs)
      |(refine wpList_store_row (by rfl) 56 (.tmp 5) (.tmp 24) (by rfl) w5.heap.size c.toArray (by rfl) (by rfl) 56 zeroN.toArray (heap_alloc_new w5 _) (by rw[node_info];simp[HS5.out.1.1]) (by simp[HS5.out.1.1,zeroN,ofC]) (all_oneCell_toArray HS5.out.1.2) ?_;rw[World.setRow_alloc_new];obtain⟨F,hA⟩:=AdO.make (w:=w) HS5.out.1 HS5.out.2.1 (gS.1 HS2.out.2.1).1 HS5.out.2.2.1.1 HS5.out.2.2.2.1 HS5.out.2.2.2.2;obtain⟨w6,hw6⟩:∃w6,w6=w5.alloc (.cells c.toArray 56):=⟨_,rfl⟩;rw[←hw6]at hA ⊢;have HA:=yH hA;clear hA hw6)
      |(refine wpList_load_row (by rfl) 56 (.tmp 5) (by rfl) w5.heap.size (by rfl) 56 c.toArray (0,0) _ HA.out.box Tryz.underlying56 rfl (by rw[node_info];simp[HS5.out.1.1]) ?_)
      |(refine wpList_store_row (by rfl) 56 (.tmp 4) (.tmp 26) (by rfl) w.heap.size c.toArray (by rfl) (by rfl) 56 zeroN.toArray HA.out.zero (by rw[node_info];simp[HS5.out.1.1]) (by simp[HS5.out.1.1,zeroN,ofC]) (all_oneCell_toArray HS5.out.1.2) ?_))
    (try simp only[Exit.inBlock,Exit.then])
    refine bodyPost_ret (ret_tree rfl (setRow_heap w6 w.heap.size zeroN.toArray _ 56 (0,0) HA.out.zero) HS5.out.1 rfl) rfl ?_;exact HA.out.ret HX.out.2 HX.out.1
  |false=>
    rw[ha]at HIA
    cases hb:S0.is [40]with
    |true=>
      rw[hb]at HIB;have HE:=yH (show S0=S1 from by rw[H1.out,ha,hb];rfl);clear ha hb;go_enter Tryz.func183,Tryz.ntmps183
      go_wp2_with (first
        |(go_at_call 153;refine HBG.out.mono ?_;rintro en w1 ⟨rfl,hs⟩;have HS1:=yH (And.intro hs.1 (And.intro (hs.2.heap (heap_alloc_new w ZN) (by have:=HX.out;omega)) ((Kept.of_below (D:=fun k=>k=X) (below_new w ZN)).on hs.2)));have HPR:=yH hs.1;clear hs)
        |(go_at_call 129;(with_reducible refine(HIA.out _ HPR.out).mono ?_);rintro en w2 ⟨rfl,hb⟩;have HS2:=yH (And.intro (HS1.out.1.new hb) (And.intro ((hb.block w.heap.size (gS.1 HS1.out.2.1).1).trans HS1.out.2.1) (HS1.out.2.2.on (Kept.of_below hb))));have HPR2:=yH (HS1.out.1.new hb);clear hb)
        |(go_at_call 129;(with_reducible refine(HIB.out _ HPR2.out).mono ?_);rintro en w3 ⟨rfl,hb⟩;have HS3:=yH (And.intro (HS2.out.1.new hb) (And.intro ((hb.block w.heap.size (gS.1 HS2.out.2.1).1).trans HS2.out.2.1) (HS2.out.2.2.on (Kept.of_below hb))));clear hb)
        |(go_at_call 156;refine(HC.out _ (HE.out▸HS3.out.1)).mono ?_;rintro en w5 ⟨c,bb,rfl,hcel,hnew,hs⟩;have HS5:=yH (And.intro hcel (And.intro hnew (And.intro hs (And.intro (hs.2.heap HS3.out.2.1 (by have:=HX.out;omega)) (HS3.out.2.2.on hs.2)))));clear hcel hnew hs)
        |(refine wpList_store_row (by rfl) 56 (.tmp 5) (.tmp 24) (by rfl) w5.heap.size c.toArray (by rfl) (by rfl) 56 zeroN.toArray (heap_alloc_new w5 _) (by rw[node_info];simp[HS5.out.1.1]) (by simp[HS5.out.1.1,zeroN,ofC]) (all_oneCell_toArray HS5.out.1.2) ?_;rw[World.setRow_alloc_new];obtain⟨F,hA⟩:=AdO.make (w:=w) HS5.out.1 HS5.out.2.1 (gS.1 HS3.out.2.1).1 HS5.out.2.2.1.1 HS5.out.2.2.2.1 HS5.out.2.2.2.2;obtain⟨w6,hw6⟩:∃w6,w6=w5.alloc (.cells c.toArray 56):=⟨_,rfl⟩;rw[←hw6]at hA ⊢;have HA:=yH hA;clear hA hw6)
        |(refine wpList_load_row (by rfl) 56 (.tmp 5) (by rfl) w5.heap.size (by rfl) 56 c.toArray (0,0) _ HA.out.box Tryz.underlying56 rfl (by rw[node_info];simp[HS5.out.1.1]) ?_)
        |(refine wpList_store_row (by rfl) 56 (.tmp 4) (.tmp 26) (by rfl) w.heap.size c.toArray (by rfl) (by rfl) 56 zeroN.toArray HA.out.zero (by rw[node_info];simp[HS5.out.1.1]) (by simp[HS5.out.1.1,zeroN,ofC]) (all_oneCell_toArray HS5.out.1.2) ?_))
      (try simp only[Exit.inBlock,Exit.then])
      refine bodyPost_ret (ret_tree rfl (setRow_heap w6 w.heap.size zeroN.toArray _ 56 (0,0) HA.out.zero) HS5.out.1 rfl) rfl ?_;exact HA.out.ret HX.out.2 HX.out.1
    |false=>
      rw[hb]at HIB;have HE:=yH (show S0.fail 2=S1 from by rw[H1.out,ha,hb];rfl);clear ha hb;go_enter Tryz.func183,Tryz.ntmps183
      go_wp2_with (first
        |(go_at_call 153;refine HBG.out.mono ?_;rintro en w1 ⟨rfl,hs⟩;have HS1:=yH (And.intro hs.1 (And.intro (hs.2.heap (heap_alloc_new w ZN) (by have:=HX.out;omega)) ((Kept.of_below (D:=fun k=>k=X) (below_new w ZN)).on hs.2)));have HPR:=yH hs.1;clear hs)
        |(go_at_call 129;(with_reducible refine(HIA.out _ HPR.out).mono ?_);rintro en w2 ⟨rfl,hb⟩;have HS2:=yH (And.intro (HS1.out.1.new hb) (And.intro ((hb.block w.heap.size (gS.1 HS1.out.2.1).1).trans HS1.out.2.1) (HS1.out.2.2.on (Kept.of_below hb))));have HPR2:=yH (HS1.out.1.new hb);clear hb)
        |(go_at_call 129;(with_reducible refine(HIB.out _ HPR2.out).mono ?_);rintro en w3 ⟨rfl,hb⟩;have HS3:=yH (And.intro (HS2.out.1.new hb) (And.intro ((hb.block w.heap.size (gS.1 HS2.out.2.1).1).trans HS2.out.2.1) (HS2.out.2.2.on (Kept.of_below hb))));clear hb)
        |(go_at_call 46;refine(pfail_any HS3.out.1 2 (by decide)).mono ?_;rintro en w4 ⟨rfl,hs⟩;have HS4:=yH (And.intro hs.1 (And.intro (hs.2.heap HS3.out.2.1 (by have:=HX.out;omega)) (HS3.out.2.2.on hs.2)));clear hs)
        |(go_at_call 156;refine(HC.out _ (HE.out▸HS4.out.1)).mono ?_;rintro en w5 ⟨c,bb,rfl,hcel,hnew,hs⟩;have HS5:=yH (And.intro hcel (And.intro hnew (And.intro hs (And.intro (hs.2.heap HS4.out.2.1 (by have:=HX.out;omega)) (HS4.out.2.2.on hs.2)))));clear hcel hnew hs)
        |(refine wpList_store_row (by rfl) 56 (.tmp 5) (.tmp 24) (by rfl) w5.heap.size c.toArray (by rfl) (by rfl) 56 zeroN.toArray (heap_alloc_new w5 _) (by rw[node_info];simp[HS5.out.1.1]) (by simp[HS5.out.1.1,zeroN,ofC]) (all_oneCell_toArray HS5.out.1.2) ?_;rw[World.setRow_alloc_new];obtain⟨F,hA⟩:=AdO.make (w:=w) HS5.out.1 HS5.out.2.1 (gS.1 HS4.out.2.1).1 HS5.out.2.2.1.1 HS5.out.2.2.2.1 HS5.out.2.2.2.2;obtain⟨w6,hw6⟩:∃w6,w6=w5.alloc (.cells c.toArray 56):=⟨_,rfl⟩;rw[←hw6]at hA ⊢;have HA:=yH hA;clear hA hw6)
        |(refine wpList_load_row (by rfl) 56 (.tmp 5) (by rfl) w5.heap.size (by rfl) 56 c.toArray (0,0) _ HA.out.box Tryz.underlying56 rfl (by rw[node_info];simp[HS5.out.1.1]) ?_)
        |(refine wpList_store_row (by rfl) 56 (.tmp 4) (.tmp 26) (by rfl) w.heap.size c.toArray (by rfl) (by rfl) 56 zeroN.toArray HA.out.zero (by rw[node_info];simp[HS5.out.1.1]) (by simp[HS5.out.1.1,zeroN,ofC]) (all_oneCell_toArray HS5.out.1.2) ?_))
      (try simp only[Exit.inBlock,Exit.then])
      refine bodyPost_ret (ret_tree rfl (setRow_heap w6 w.heap.size zeroN.toArray _ 56 (0,0) HA.out.zero) HS5.out.1 rfl) rfl ?_;exact HA.out.ret HX.out.2 HX.out.1
theorem dead_isFun {S:PS} (h:GoodS S) (hd:Dead S):S.isFun=false:=by
  unfold PS.isFun PS.isName;rw[h.tx3 (Dead.kind h hd),nameT_nil];rfl
theorem dead_none {S:PS} (h:GoodS S) (hd:Dead S):∀s∈ [[123],[40],[105,102],[119,104,105,108,101],[117,110,116,105,108],[102,111,114],[99,97,115,101]],S.is s=false:=fun s hs=>Dead.is h hd (by
  rintro rfl
  simp at hs)
theorem plist_of {w0:World} {cmd:Do} {d:Nat} (hok:DoOk cmd) (hc:CallDo w0 130 cmd d):CallDo w0 44 (listM cmd) d:=plist_any hok (pandor_any hok (ppipe_any hok hc))
theorem pcompound_any {w0 w:World} {X:Nat} {S:PS} {cmd br:Do} {d:Nat} (hd:d≤100) (hok:DoOk cmd) (hc:CallDo w0 44 (listM cmd) (d+1)) (hb:CallDoR w0 185 (branchM cmd br) d) (h:Pr w0 w X S):
    Calls Tryz.prog 156 #[.pointer (some ⟨X,0,none⟩),.int .i64 (d:Int)] w fun e w'=>CoEnd w0 w w' e X S (compoundM cmd br S):=by
  unfold compoundM
  cases h1:S.is [123]with
  |true=>simpa using pcompound_brace hd hc h h1
  |false=>
  cases h2:S.is [40]with
  |true=>simpa using pcompound_paren hd hc h h2
  |false=>
  cases h3:S.is [105,102]with
  |true=>simpa using pcompound_if hb h h3
  |false=>
  cases h4:S.is [119,104,105,108,101]with
  |true=>simpa using pcompound_while hd hc h h4
  |false=>
  cases h5:S.is [117,110,116,105,108]with
  |true=>simpa using pcompound_until hd hc h h5
  |false=>
  cases h6:S.is [102,111,114]with
  |true=>simpa using pcompound_for (peach_any (pbody_any hd hc)) h h6
  |false=>
  cases h7:S.is [99,97,115,101]with
  |true=>simpa using pcompound_case (pchoice_any hd hok hc) h h7
  |false=>simpa using pcompound_none d h (by simp[h1,h2,h3,h4,h5,h6,h7])
structure LvOk (w0:World) (k d:Nat):Prop where
  cmd:CallDo w0 130 (lv k).cmd d
  br:1≤k→CallDoR w0 185 (lv k).br d
  held:CallDo w0 183 (lv k).held d
theorem lv0_ok (w0:World):LvOk w0 0 20:=by
  refine⟨fun w X S h=> ?_,fun h=>absurd h (by decide),fun w X S h=> ?_⟩
  · have hg:=(to_fail h.good (e:=3) (by decide)).good
    have hd:Dead (S.fail 3):=fail_one h.good 3;have:=pcommand_any (S0:=S.fail 3) (d:=20) (fn:=fun S=>(tr0,S)) (m:=none) h (by simp) (fun hf=>absurd hf (by rw[dead_isFun hg hd];decide)) (fun W hW=>pcompound_none 20 hW (dead_none hg hd));rw[cmdAt,if_neg (by rw[dead_isFun hg hd];decide)]at this;exact this
  · have hg:=(to_fail h.good (e:=3) (by decide)).good
    have hd:Dead (S.fail 3):=fail_one h.good 3;have hg2:=(to_fail hg (e:=2) (by decide)).good;have hd2:Dead ((S.fail 3).fail 2):=fail_one hg 2;have:=pheld_any (S0:=S.fail 3) (S1:=(S.fail 3).fail 2) (d:=20) (m:=none) h (by simp) (by simp[Dead.is hg hd (s:= [123]) (by decide),Dead.is hg hd (s:= [40]) (by decide)]) (fun W hW=>pcompound_none 20 hW (dead_none hg2 hd2))
    have e:(S.fail 3).fail 2=S.fail 3:=by
      have e1:(S.fail 3).err≠0:=by unfold PS.fail;split<;>simp_all
      generalize hT:S.fail 3=T at*
      unfold PS.fail;rw[if_neg e1,if_neg e1];unfold Dead at hd
      cases T
      simp_all
    rw[heldAt,e]at this;exact this
theorem lv_ok (w0:World):∀k d,k+d=20→LvOk w0 k d
  |0,d,hk=>by
    obtain rfl:d=20:=(by omega);exact lv0_ok w0
  |k+1,d,hk=>by
    have ih:=lv_ok w0 k (d+1) (by omega);have hok:=(to_lv k).1;have hl:=plist_of hok ih.cmd;have hd:d≤100:=(by omega)
    have hb:CallDoR w0 185 (branchM (lv k).cmd (lv k).br) d:=pbranch_any hd hok hl (fun S hS hi=>by
      cases k with
      |zero=>exact absurd hi (by rw[Dead.is (to_list hok S hS).good (list0_dead hS) (by decide)];decide)
      |succ k=>exact(ih.br (by omega)).plain)
    refine⟨fun w X S h=> ?_,fun _=>hb,fun w X S h=> ?_⟩
    · have:=pcommand_any (S0:=S) (d:=d) (fn:=funM (lv k).held) (m:=compoundM (lv k).cmd (lv k).br S) h (by rw[if_neg (by omega)]) (fun _=>pfun_any hd ih.held) (fun W hW=>pcompound_any hd hok hl hb hW)
      exact this
    · cases h1:S.is [123]||S.is [40]with
      |true=>
        have:=pheld_any (S0:=S) (S1:=S) (d:=d) (m:=compoundM (lv k).cmd (lv k).br S) h (by rw[if_neg (by omega)]) (by rw[h1];rfl) (fun W hW=>pcompound_any hd hok hl hb hW)
        have e:heldAt (compoundM (lv k).cmd (lv k).br S) S=heldM (lv k).cmd S:=by
          unfold compoundM heldM
          cases h2:S.is [123]with
          |true=>rfl
          |false=>
            rw[h2,Bool.false_or]at h1;rw[h1];rfl
        rw[e]at this;exact this
      |false=>
        have hg:=(to_fail h.good (e:=2) (by decide)).good;have hd2:Dead (S.fail 2):=fail_one h.good 2;have:=pheld_any (S0:=S) (S1:=S.fail 2) (d:=d) (m:=none) h (by rw[if_neg (by omega)]) (by rw[h1];rfl) (fun W hW=>pcompound_none d hW (dead_none hg hd2))
        have e:heldAt none (S.fail 2)=heldM (lv k).cmd S:=by
          rw[Bool.or_eq_false_iff]at h1;unfold heldM;rw[h1.1,h1.2];rfl
        rw[e]at this;exact this
theorem plist20 (w0:World):CallDo w0 44 (listM (lv 20).cmd) 0:=plist_of (to_lv 20).1 (lv_ok w0 20 0 rfl).cmd
set_option maxHeartbeats 8000000 in
set_option maxRecDepth 10000 in
theorem pscript_any {w0 w:World} {X:Nat} {S:PS} (h:Pr w0 w X S):
    Calls Tryz.prog 19 #[.pointer (some ⟨X,0,none⟩)] w fun e w'=>TrEnd w0 w w' e X (scriptM S):=by
  have HX:=yH h.base;have HP:=yH (h.new (below_new w ZN));obtain⟨r,hr⟩:∃r,listM (lv 20).cmd S=r:=⟨_,rfl⟩;have HL:=yH (show Calls Tryz.prog 44 #[.pointer (some ⟨X,0,none⟩),.int .i64 0] (w.alloc ZN) fun e w'=>TrEnd w0 (w.alloc ZN) w' e X r from hr▸plist20 w0 (w.alloc ZN) X S (h.new (below_new w ZN)));have HN:=yH (fun W (hW:Pr w0 W X r.2)=>pnext_any hW);have HF:=yH (fun W (hW:Pr w0 W X r.2)=>pfail_any hW 2 (by decide));have HM:=yH (show scriptM S=(r.1,r.2.want (r.2.hd.kind==3))from by rw[←hr];rfl);clear h hr;unfold tkV at HN;obtain⟨t,ht⟩:∃t,r.2.hd=t:=⟨_,rfl⟩;rw[ht]at HN HM;obtain⟨kd,hkd⟩:∃x,t.kind=x:=⟨_,rfl⟩;obtain⟨tx,htx⟩:∃x,T t.text=x:=⟨_,rfl⟩;obtain⟨wl,hwl⟩:∃x,t.word.length=x:=⟨_,rfl⟩;obtain⟨at_,hat⟩:∃x:Int,(t.at_:Int)=x:=⟨_,rfl⟩;rw[hkd]at HM;simp only[hkd,htx,hwl,hat]at HN;clear ht hkd htx hwl hat;obtain⟨S1,hS1⟩:∃S1,r.2=S1:=⟨_,rfl⟩;obtain⟨t1,ht1⟩:∃t1,r.1=t1:=⟨_,rfl⟩;obtain⟨M,hM⟩:∃M,scriptM S=M:=⟨_,rfl⟩;have HL2:=yH (show Calls Tryz.prog 44 #[.pointer (some ⟨X,0,none⟩),.int .i64 0] (w.alloc ZN) fun e w'=>TrEnd w0 (w.alloc ZN) w' e X (t1,S1)from by rw[←hS1,←ht1];exact HL.out);rw[hS1]at HN HF HM;rw[ht1]at HM;rw[hM]at HM ⊢;clear HL hS1 ht1 hM
  cases hk:kd==3 with
  |true=>
    have HE:=yH (show M=(t1,S1)from by rw[HM.out,hk];rfl);have HK:=yH (show(kd !=3)=false from by rw[bne,hk];rfl);clear HM hk;go_enter Tryz.func19,Tryz.ntmps19
    go_wp2_with (first
      |(go_at_call 44;refine HL2.out.mono ?_;rintro en w2 ⟨c,rfl,hcel,hnew,hs⟩;have HS2:=yH (And.intro hcel (And.intro hnew (And.intro hs (And.intro (hs.2.heap (heap_alloc_new w ZN) (by have:=HX.out;omega)) ((Kept.of_below (D:=fun k=>k=X) (below_new w ZN)).on hs.2)))));clear hcel hnew hs)
      |(refine wpList_store_row (by rfl) 56 (.tmp 3) (.tmp 5) (by rfl) w2.heap.size c.toArray (by rfl) (by rfl) 56 zeroN.toArray (heap_alloc_new w2 _) (by rw[node_info];simp[HS2.out.1.1]) (by simp[HS2.out.1.1,zeroN,ofC]) (all_oneCell_toArray HS2.out.1.2) ?_;rw[World.setRow_alloc_new];obtain⟨F,hA⟩:=AdO.make (w:=w) HS2.out.1 HS2.out.2.1 (by have:=(gS.1 HS2.out.2.2.2.1).1;have:=HX.out;simp) HS2.out.2.2.1.1 HS2.out.2.2.2.1 HS2.out.2.2.2.2;obtain⟨w3,hw3⟩:∃w3,w3=w2.alloc (.cells c.toArray 56):=⟨_,rfl⟩;rw[←hw3]at hA ⊢;have HA:=yH hA;clear hA hw3)
      |(go_at_call 45;(with_reducible refine(HN.out _ HA.out.pr).mono ?_);rintro en w4 ⟨p,k,rfl, -,hb4⟩;have HS4:=yH (HA.out.new HX.out.2 hb4);have qf:=tok_f0 kd at_ tx p wl k;have qk:=HK.out;clear hb4)
      |(refine wpList_load_row (by rfl) 56 (.tmp 3) (by rfl) w2.heap.size (by rfl) 56 c.toArray (0,0) _ HS4.out.box Tryz.underlying56 rfl (by rw[node_info];simp[HS2.out.1.1]) ?_)
      |(refine wpList_store_row (by rfl) 56 (.tmp 2) (.tmp 12) (by rfl) w.heap.size c.toArray (by rfl) (by rfl) 56 zeroN.toArray HS4.out.zero (by rw[node_info];simp[HS2.out.1.1]) (by simp[HS2.out.1.1,zeroN,ofC]) (all_oneCell_toArray HS2.out.1.2) ?_))
    (try simp only[Exit.inBlock,Exit.then])
    refine bodyPost_ret (ret_tree rfl (setRow_heap w4 w.heap.size zeroN.toArray _ 56 (0,0) HS4.out.zero) HS2.out.1 rfl) rfl ?_;rw[HE.out];exact HS4.out.ret HX.out.2 HX.out.1
  |false=>
    have HE:=yH (show M=(t1,S1.fail 2)from by rw[HM.out,hk];rfl);have HK:=yH (show(kd !=3)=true from by rw[bne,hk];rfl);clear HM hk;go_enter Tryz.func19,Tryz.ntmps19
    go_wp2_with (first
      |(go_at_call 44;refine HL2.out.mono ?_;rintro en w2 ⟨c,rfl,hcel,hnew,hs⟩;have HS2:=yH (And.intro hcel (And.intro hnew (And.intro hs (And.intro (hs.2.heap (heap_alloc_new w ZN) (by have:=HX.out;omega)) ((Kept.of_below (D:=fun k=>k=X) (below_new w ZN)).on hs.2)))));clear hcel hnew hs)
      |(refine wpList_store_row (by rfl) 56 (.tmp 3) (.tmp 5) (by rfl) w2.heap.size c.toArray (by rfl) (by rfl) 56 zeroN.toArray (heap_alloc_new w2 _) (by rw[node_info];simp[HS2.out.1.1]) (by simp[HS2.out.1.1,zeroN,ofC]) (all_oneCell_toArray HS2.out.1.2) ?_;rw[World.setRow_alloc_new];obtain⟨F,hA⟩:=AdO.make (w:=w) HS2.out.1 HS2.out.2.1 (by have:=(gS.1 HS2.out.2.2.2.1).1;have:=HX.out;simp) HS2.out.2.2.1.1 HS2.out.2.2.2.1 HS2.out.2.2.2.2;obtain⟨w3,hw3⟩:∃w3,w3=w2.alloc (.cells c.toArray 56):=⟨_,rfl⟩;rw[←hw3]at hA ⊢;have HA:=yH hA;clear hA hw3)
      |(go_at_call 45;(with_reducible refine(HN.out _ HA.out.pr).mono ?_);rintro en w4 ⟨p,k,rfl, -,hb4⟩;have HS4:=yH (HA.out.new HX.out.2 hb4);have qf:=tok_f0 kd at_ tx p wl k;have qk:=HK.out;clear hb4)
      |(go_at_call 46;refine(HF.out _ HS4.out.pr).mono ?_;rintro en w5 ⟨rfl,hs⟩;have HS5:=yH (HS4.out.step HX.out.2 hs);clear hs)
      |(refine wpList_load_row (by rfl) 56 (.tmp 3) (by rfl) w2.heap.size (by rfl) 56 c.toArray (0,0) _ HS5.out.box Tryz.underlying56 rfl (by rw[node_info];simp[HS2.out.1.1]) ?_)
      |(refine wpList_store_row (by rfl) 56 (.tmp 2) (.tmp 12) (by rfl) w.heap.size c.toArray (by rfl) (by rfl) 56 zeroN.toArray HS5.out.zero (by rw[node_info];simp[HS2.out.1.1]) (by simp[HS2.out.1.1,zeroN,ofC]) (all_oneCell_toArray HS2.out.1.2) ?_))
    (try simp only[Exit.inBlock,Exit.then])
    refine bodyPost_ret (ret_tree rfl (setRow_heap w5 w.heap.size zeroN.toArray _ 56 (0,0) HS5.out.zero) HS2.out.1 rfl) rfl ?_;rw[HE.out];exact HS5.out.ret HX.out.2 HX.out.1
end Go.Proofs.YtakceggnadagmaaGreatDoor
