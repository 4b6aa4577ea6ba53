/-
  Proved: contracts of functions, plain facts. Conditions: as each says.
-/
import Derived.Test.YtakceggnadagmaaGreatDoorPq15
import Derived.Test.YtakceggnadagmaaGreatDoorPq00
import Derived.Test.YtakceggnadagmaaGreatDoorPq01
import Derived.OwnWalk
import Derived.Lib.OthersKept
import Derived.Laws.Cover4
import Derived.Lib.LaidU8
import Derived.Test.YtakceggnadagmaaGreatDoorPq02
import Derived.Deep.QuietTactic
import Derived.BigQuiet
import Derived.LoopTactic
namespace Go.Proofs.YtakceggnadagmaaGreatDoor
open Go Go.RowKit GlyphMath LexMath TreeMath ParseMath
def parseB (s:ByteArray):Except (Nat×Nat) (List Nd):=match tokB s with
  | .ok ts=>parseM ts
  | .error x=> .error x
def PZ:Array Value:= #[.slice none 0 0,.int .i64 0]
def fullN (n:Nd):Bool:=n.words.all (fun x=> !x.isEmpty)&&n.pats.all fun x=> !x.isEmpty&&x.all fun y=> !y.isEmpty
def fullNs (l:List Nd):Bool:=l.all fullN
def PaEnd (w w':World) (e:Ending) (s:ByteArray):Prop:=match parseB s with
  | .ok ns=> ∃v,e= .returned (.tuple #[.agg #[v,.int .i64 0],.int .i64 (s.size:Int),.int .i64 0])∧(∃p c,v= .slice p ns.length c)∧(fullNs ns=true→NsAt w' v ns)∧Below w.heap.size w w'
  | .error (n,c)=>c≠0∧e= .returned (.tuple #[.agg PZ,.int .i64 (n:Int),.int .i64 (c:Int)])∧Below w.heap.size w w'
theorem two_all {a b:Value} (ha:a.oneCell'=true) (hb:b.oneCell'=true):(#[a,b]:Array Value).all (fun x=>x.oneCell')=true:=by simp[ha,hb]
theorem PZ_all:PZ.all (fun x=>x.oneCell')=true:=two_all rfl rfl
set_option maxHeartbeats 4000000 in
set_option maxRecDepth 10000 in
theorem pparse_bad (s:ByteArray) (w:World) (hS:Signs (w.alloc (.cells PZ 24))) {n c:Nat} (hm:tokB s= .error (n,c)):Calls Tryz.prog 11 #[.string s] w fun e w'=>PaEnd w w' e s:=by
  have HT:=yH (show Calls _ _ _ _ (fun e w'=>(c=2∨c=3)∧e= .returned (.tuple #[zeroV,.int .i64 (n:Int),.int .i64 (c:Int)])∧Below (w.alloc (.cells PZ 24)).heap.size (w.alloc (.cells PZ 24)) w')from by
    have:=ptok_any s _ hS;unfold TkEnd at this;rw[hm]at this
    exact this)
  have HP:=yH (show ∀e w',PaEnd w w' e s↔c≠0∧e= .returned (.tuple #[.agg PZ,.int .i64 (n:Int),.int .i64 (c:Int)])∧Below w.heap.size w w' from fun e w'=>by
    unfold PaEnd parseB
    rw[hm])
  have HB:=yH (below_new w);clear hm hS;refine Calls.mono (R:=fun e w'=>c≠0∧e= .returned (.tuple #[.agg PZ,.int .i64 (n:Int),.int .i64 (c:Int)])∧Below w.heap.size w w') ?_ fun e w' h=>(HP.out e w').2 h;obtain⟨nn,hn⟩:∃nn:Int,(n:Int)=nn:=⟨_,rfl⟩;rw[hn]at HT ⊢;clear hn HP;go_enter Tryz.func11,Tryz.ntmps11
  go_wp2_with (first
    |(go_at_call 18;refine HT.out.mono ?_;rintro en w2 ⟨hc,rfl,hb⟩;have HZ:=yH ((hb.block w.heap.size (by simp)).trans (heap_alloc_new w _));have HBB:=yH ((HB.out _).trans (hb.mono (HB.out _).size));have HC:=yH (show c≠0 by omega);have hc0:((c:Int) !=0)=true:=(by have:¬(c:Int)=0:=(by omega);simpa using this);clear hc hb)
    |(refine wpList_store_row (by rfl) 24 (.tmp 2) (.tmp 16) (by rfl) w.heap.size PZ (by rfl) (by rfl) 24 PZ HZ.out (by rw[prog_info];rfl) rfl PZ_all ?_))
  (try simp only[Exit.inBlock,Exit.then])
  refine bodyPost_ret (ret_prog rfl (setRow_heap w2 w.heap.size PZ PZ 24 (0,0) HZ.out) rfl rfl rfl rfl) rfl ?_;have hk:=kept_row HBB.out (Nat.le_refl w.heap.size) PZ;exact⟨HC.out,rfl,⟨hk.os,hk.tape,hk.output,hk.size,fun k hk'=>hk.block k hk' (by omega)⟩⟩
structure PaO (w w5:World) (X L:Nat) (c:List Value) (S:PS) (t:Tr):Prop where
  z:w5.heap[w.heap.size]? =some (.cells PZ 24 (0,0))
  below:Below w.heap.size w w5
  rd:∃v,w5.heap[X]? =some (.cells #[v,.int .i64 (S.at_:Int),.int .i64 (S.err:Int)] 53 (0,0))
  box:w5.heap[L]? =some (.cells c.toArray 56 (0,0))
  cel:Cel 8 c
  tree:TrC w5 c t
theorem PaO.make {w w2 w3 w4:World} {c:List Value} {r:Tr×PS} {o:Obj} (hz:w2.heap[w.heap.size]? =some (.cells PZ 24 (0,0))) (hb:Below w.heap.size w w2) (hw3:w3=w2.alloc o) (hcel:Cel 8 c) (hnew:NewAt w2 w4 w3.heap.size fun W=>TrC W c r.1) (hs:PStep w2 w3 w4 w2.heap.size r.2):
    PaO w (w4.alloc (.cells c.toArray 56)) w2.heap.size w4.heap.size c r.2 r.1:=by
  have hl:=(gS.1 hz).1;have h3:Below w2.heap.size w2 w3:=(by rw[hw3];exact below_new _ _);have h4:=(hs.2.block w.heap.size (Nat.lt_of_lt_of_le hl h3.size) (fun e=>by omega)).trans ((h3.block _ hl).trans hz);have hb3:Below w.heap.size w w3:=hb.trans (h3.mono hb.size);have hb4:Below w.heap.size w w4:=below_kept hb3 hs.2 (fun i e=>by have:=hb.size;omega) hb3.size;have hn:=below_new w4 (.cells c.toArray 56);have hs4:w.heap.size<w4.heap.size:=(gS.1 h4).1;obtain⟨G,oo,cc,hp⟩:=hs.1;refine⟨(hn.block _ hs4).trans h4,hb4.trans (hn.mono hb4.size),⟨_,(hn.block _ (gS.1 hp.head).1).trans hp.head⟩,heap_alloc_new w4 _,hcel,(hnew.now hs.1.below).later hn⟩
set_option maxHeartbeats 4000000 in
set_option maxRecDepth 10000 in
theorem pparse_fail (s:ByteArray) (w:World) (hS:Signs (w.alloc (.cells PZ 24))) {ts:List Tk} (hm:tokB s= .ok ts) (he:(scriptM ⟨ts,0,0⟩).2.err≠0):Calls Tryz.prog 11 #[.string s] w fun e w'=>PaEnd w w' e s:=by
  have HT:=yH (show Calls _ _ _ _ (fun e w'=> ∃G c,e= .returned (.tuple #[.slice (some ⟨G,0,none⟩) ts.length c,.int .i64 (s.size:Int),.int .i64 0])∧ts.length≤c∧ToksAt w' G 0 ts∧GoodS ⟨ts,0,0⟩∧Below (w.alloc (.cells PZ 24)).heap.size (w.alloc (.cells PZ 24)) w')from by
    have:=ptok_any s _ hS;unfold TkEnd at this;rw[hm]at this
    exact this)
  have HB:=yH (below_new w)
  have HP:=yH (show ∀e w',(match parseM ts with
    | .ok ns=> ∃v,e= .returned (.tuple #[.agg #[v,.int .i64 0],.int .i64 (s.size:Int),.int .i64 0])∧(∃p c,v= .slice p ns.length c)∧(fullNs ns=true→NsAt w' v ns)∧Below w.heap.size w w'
    | .error (n,c)=>c≠0∧e= .returned (.tuple #[.agg PZ,.int .i64 (n:Int),.int .i64 (c:Int)])∧Below w.heap.size w w')→PaEnd w w' e s from fun e w' h=>by
    unfold PaEnd parseB;rw[hm]
    exact h)
  refine Calls.mono ?_ HP.out;clear hm hS HP;have HM:=yH (show parseM ts=if (scriptM ⟨ts,0,0⟩).2.err≠0 then .error ((scriptM ⟨ts,0,0⟩).2.at_,(scriptM ⟨ts,0,0⟩).2.err)else if 200<(laidM (scriptM ⟨ts,0,0⟩).1 []).length then .error (0,3)else .ok (laidM (scriptM ⟨ts,0,0⟩).1 [])from rfl);obtain⟨r,hr⟩:∃r,scriptM ⟨ts,0,0⟩=r:=⟨_,rfl⟩;rw[hr]at HM he;have HR:=yH hr;obtain⟨N,hN⟩:∃N,ts.length=N:=⟨_,rfl⟩;have HN:=yH hN;rw[hN]at HT;clear hr hN;have he0:((r.2.err:Int) !=0)=true:=(by have:¬(r.2.err:Int)=0:=(by omega);simpa using this);have HM2:=yH (show parseM ts= .error (r.2.at_,r.2.err)from by rw[HM.out,if_pos he]);have HE:=yH he;rw[HM2.out];obtain⟨ee,hee⟩:∃ee:Int,(r.2.err:Int)=ee:=⟨_,rfl⟩;obtain⟨aa,haa⟩:∃aa:Int,(r.2.at_:Int)=aa:=⟨_,rfl⟩;have HEE:=yH hee;have HAA:=yH haa;rw[hee]at he0;clear HM HM2 he hee haa;go_enter Tryz.func11,Tryz.ntmps11
  go_wp2_with (first
    |(go_at_call 18;refine HT.out.mono ?_;rintro en w2 ⟨G,c,rfl,hle,htk,hgood,hb⟩;have HZ:=yH ((hb.block w.heap.size (by simp)).trans (heap_alloc_new w _));have HBB:=yH ((HB.out _).trans (hb.mono (HB.out _).size));have HTK:=yH (And.intro hle (And.intro htk hgood));clear hle htk hgood hb)
    |(go_at_call 19;obtain⟨w3,hw3⟩:∃w3,w3=w2.alloc (.cells #[.slice (some ⟨G,0,none⟩) N c,.int .i64 0,.int .i64 0] 53):=⟨_,rfl⟩;have HPR:=yH (show Pr w2 w3 w2.heap.size ⟨ts,0,0⟩from ⟨G,0,c,(by rw[hw3];exact below_new _ _),Nat.le_refl _,(by rw[hw3,←HN.out];exact heap_alloc_new w2 _),(by have:=HTK.out.1;rw[←HN.out]at this;exact this),HTK.out.2.1,HTK.out.2.2⟩);have HW3:=yH hw3;rw[←hw3];clear hw3;refine(pscript_any HPR.out).mono ?_;rintro en w4 ⟨cs,rfl,hcel,hnew,hs⟩;rw[HR.out]at hnew hs;have HPA:=yH (PaO.make HZ.out HBB.out HW3.out hcel hnew hs);have HCS:=yH hcel;clear hcel hnew hs)
    |(refine wpList_store_row (by rfl) 56 (.tmp 7) (.tmp 21) (by rfl) w4.heap.size cs.toArray (by rfl) (by rfl) 56 zeroN.toArray (heap_alloc_new w4 _) (by rw[node_info];simp[HCS.out.1]) (by simp[HCS.out.1,zeroN,ofC]) (all_oneCell_toArray HCS.out.2) ?_;rw[World.setRow_alloc_new];obtain⟨w5,hw5⟩:∃w5,w4.alloc (.cells cs.toArray 56)=w5:=⟨_,rfl⟩;have hpa:=HPA.out;rw[hw5]at hpa ⊢;clear hw5;obtain⟨rv,hrd⟩:=hpa.rd;rw[HEE.out,HAA.out]at hrd;have x1:=cell_plain hrd 1;have x2:=cell_plain hrd 2;have HP5:=yH hpa;clear hpa hrd))
  have z0:w5.cell? ⟨w.heap.size,0,none⟩=some (.slice none 0 0):=cell_plain HP5.out.z 0;have z1:w5.cell? ⟨w.heap.size,1,none⟩=some (.int .i64 0):=cell_plain HP5.out.z 1;have g0:=frozen_plain HP5.out.z 0;have g1:=frozen_plain HP5.out.z 1
  have hne:w2.heap.size≠w.heap.size:=fun e=>by
    have:=(gS.1 HZ.out).1;omega
  have far:∀(W:World) (i j:Nat) (u:Value),(W.setCell ⟨w.heap.size,i,none⟩ u).cell? ⟨w2.heap.size,j,none⟩=W.cell? ⟨w2.heap.size,j,none⟩:=fun W i j u=>World.cell?_of_block (Below.heap_setCell W ⟨w.heap.size,i,none⟩ u w2.heap.size hne);have y1:((w5.setCell ⟨w.heap.size,0,none⟩ (.slice none 0 0)).setCell ⟨w.heap.size,1,none⟩ (.int .i64 0)).cell? ⟨w2.heap.size,1,none⟩=some (.int .i64 aa):=(by rw[far,far];exact x1);have y2:((w5.setCell ⟨w.heap.size,0,none⟩ (.slice none 0 0)).setCell ⟨w.heap.size,1,none⟩ (.int .i64 0)).cell? ⟨w2.heap.size,2,none⟩=some (.int .i64 ee):=(by rw[far,far];exact x2)
  go_region
  (try simp only[Exit.then])
  go_wp2_with fail
  (try simp only[Exit.inBlock,Exit.then])
  refine bodyPost_ret (ret_prog (cs:=PZ) rfl (heap_setCell_same _ _ 1 _ _ (.int .i64 0) (heap_setCell_same _ _ 0 _ _ (.slice none 0 0) HP5.out.z)) rfl rfl rfl rfl) rfl ?_;exact⟨HE.out,by rw[HEE.out,HAA.out];rfl,below_drewW ((HP5.out.below.setCell (p:=⟨w.heap.size,0,none⟩) (Nat.le_refl _) _).setCell (p:=⟨w.heap.size,1,none⟩) (Nat.le_refl _) _)⟩
section
variable {w W : World} {z : Nat} {t : TypeId} (hz : w.heap[z]? = some (.cells PZ t (0, 0))) (hk : ∀ k, k ≠ z → W.heap[k]? = w.heap[k]?) (h1 : W.cell? ⟨z, 1, none⟩ = some (.int .i64 0))
include hz hk h1
theorem spot_turn {p:Option Addr} {k size:Nat} {cs:List Value} (h:SpotAt w p k size cs) (hc:3≤cs.length∨(∃s r,cs= .string s::r)∨∃u,cs= [u]∧u≠ .slice none 0 0):SpotAt W p k size cs:=by
  obtain⟨b,o,hp,hs⟩:=h;refine⟨b,o,hp,fun i u hu=> ?_⟩;have hw:=hs i u hu
  by_cases hb:b=z
  · subst hb
    rcases hc with hc|⟨s,r,rfl⟩|⟨v,rfl,hv⟩
    · have h2:=hs 2 (cs[2]'(by omega)) (List.getElem?_eq_getElem _)
      rw[cell_plain hz]at h2;have:=(gS.1 h2).1;simp only[PZ,List.size_toArray,List.length_cons,List.length_nil]at this;omega
    · have h2:=hs 0 _ rfl
      rw[cell_plain hz]at h2;obtain⟨h3,h4⟩:=gS.1 h2;have h5:o+k*size+0=0∨o+k*size+0=1:=(by simp[PZ]at h3;omega)
      rcases h5 with h5|h5
      · rw[h5]at h2;simp[PZ]at h2
      · rw[h5]at h2;simp[PZ]at h2
    · have hi:i=0:=by have:=(List.getElem?_eq_some_iff.1 hu).1;simpa using this
      subst hi;obtain rfl:v=u:=(by simpa using hu);rw[cell_plain hz]at hw;obtain⟨h3, -⟩:=gS.1 hw;have h5:o+k*size+0=0∨o+k*size+0=1:=(by simp[PZ]at h3;omega)
      rcases h5 with h5|h5
      · rw[h5]at hw;simp[PZ]at hw;exact absurd hw.symm hv
      · rw[h5]at hw ⊢;simp[PZ]at hw;rw[h1,hw]
  · rw[World.cell?_of_block (hk b hb)]
    exact hw
theorem ps_turn {v:Value} {ps:List Pt} (h:PsAt w v ps):PsAt W v ps:=by
  induction h with
  |mk p c ps us e1 e2 e3 _ ih=>exact .mk p c ps us e1 e2 (fun k q u hq hu=>spot_turn hz hk h1 (e3 k q u hq hu) (.inl (by simp[pcells]))) ih
omit hz hk h1 in
theorem ps_ne {v:Value} {ps:List Pt} (h:PsAt w v ps) (hp:ps≠ []):v≠ .slice none 0 0:=by
  obtain⟨p,c,rfl, -⟩:=h.is;intro e;simp only[Value.slice.injEq]at e;exact hp (List.eq_nil_of_length_eq_zero e.2.1)
omit hz hk h1 in
theorem sl_ne {size:Nat} {α:Type} {P:α→List Value→Prop} {v:Value} {l:List α} (h:SlAt w size α P v l) (hp:l≠ []):v≠ .slice none 0 0:=by
  obtain⟨⟨p,c,rfl, -⟩, -⟩:=h;intro e;simp only[Value.slice.injEq]at e;exact hp (List.eq_nil_of_length_eq_zero e.2.1)
theorem ws_turn {v:Value} {l:List (List Pt)} (h:WsAt w v l) (hn:∀x∈l,x≠ []):WsAt W v l:=by
  obtain⟨⟨p,c,hv,hx⟩,hf⟩:=h;refine⟨⟨p,c,hv,fun k x hk'=> ?_⟩,hf⟩;obtain⟨cs,a,u,rfl,b⟩:=hx k x hk';exact⟨[u],spot_turn hz hk h1 a (.inr (.inr ⟨u,rfl,ps_ne b (hn x (List.mem_of_getElem? hk'))⟩)),u,rfl,ps_turn hz hk h1 b⟩
theorem pats_turn {v:Value} {l:List (List (List Pt))} (h:PatsAt w v l) (hn:∀x∈l,x≠ []∧∀y∈x,y≠ []):PatsAt W v l:=by
  obtain⟨⟨p,c,hv,hx⟩,hf⟩:=h;refine⟨⟨p,c,hv,fun k x hk'=> ?_⟩,hf⟩;obtain⟨cs,a,u,rfl,b⟩:=hx k x hk';obtain⟨n1,n2⟩:=hn x (List.mem_of_getElem? hk');exact⟨[u],spot_turn hz hk h1 a (.inr (.inr ⟨u,rfl,sl_ne b n1⟩)),u,rfl,ws_turn hz hk h1 b n2⟩
theorem as_turn {v:Value} {l:List (List UInt8×List Pt)} (h:AsAt w v l):AsAt W v l:=by
  obtain⟨⟨p,c,hv,hx⟩,hf⟩:=h;refine⟨⟨p,c,hv,fun k x hk'=> ?_⟩,hf⟩;obtain⟨cs,a,u,rfl,b⟩:=hx k x hk';exact⟨_,spot_turn hz hk h1 a (.inr (.inl ⟨_,_,rfl⟩)),u,rfl,ps_turn hz hk h1 b⟩
theorem kids_turn {v:Value} {l:List Int} (h:KidsAt w v l):KidsAt W v l:=by
  obtain⟨⟨p,c,hv,hx⟩,hf⟩:=h;refine⟨⟨p,c,hv,fun k x hk'=> ?_⟩,hf⟩;obtain⟨cs,a,rfl⟩:=hx k x hk';exact⟨_,spot_turn hz hk h1 a (.inr (.inr ⟨_,rfl,by simp⟩)),rfl⟩
omit hz hk h1 in
theorem full_is {n:Nd} (h:fullN n=true):(∀x∈n.words,x≠ [])∧∀x∈n.pats,x≠ []∧∀y∈x,y≠ []:=by
  unfold fullN at h;simp only[Bool.and_eq_true,List.all_eq_true,Bool.not_eq_true',List.isEmpty_eq_false_iff]at h;exact⟨h.1,fun x hx=>⟨(h.2 x hx).1,(h.2 x hx).2⟩⟩
theorem ns_turn {v:Value} {l:List Nd} (h:NsAt w v l) (hn:fullNs l=true):NsAt W v l:=by
  obtain⟨⟨p,c,hv,hx⟩,hf⟩:=h;refine⟨⟨p,c,hv,fun k x hk'=> ?_⟩,hf⟩;obtain⟨cs,a,⟨kv,wv,pv,av,rv,rfl,b1,b2,b3,b4,b5⟩⟩:=hx k x hk';obtain⟨f1,f2⟩:=full_is (List.all_eq_true.1 hn x (List.mem_of_getElem? hk'));exact⟨_,spot_turn hz hk h1 a (.inl (by simp)),⟨kv,wv,pv,av,rv,rfl,kids_turn hz hk h1 b1,ws_turn hz hk h1 b2 f1,pats_turn hz hk h1 b3 f2,as_turn hz hk h1 b4,as_turn hz hk h1 b5⟩⟩
end
theorem good_size {ts:List Tk} {r:Tr×PS} (h:GoodS ⟨ts,0,0⟩) (hr:scriptM ⟨ts,0,0⟩=r):([]:List Nd).length+sizeT r.1≤50000:=by
  have h1:=script_size h;rw[hr]at h1;have h2:=h.few;dsimp only at h1 h2;rw[List.length_nil];omega
theorem laid_z {w w5 w6:World} {X L:Nat} {c:List Value} {S:PS} {t:Tr} {v:Value} {css:List (List Value)} {ns:List Nd} (h:PaO w w5 X L c S t) (hl:LaidR w5 w6 v css ns):w6.heap[w.heap.size]? =some (.cells PZ 24 (0,0)):=
  (hl.below.block _ (gS.1 h.z).1).trans h.z
theorem fin_below {w w5 w6:World} {X L:Nat} {c:List Value} {S:PS} {t:Tr} {v:Value} {css:List (List Value)} {ns:List Nd} (h:PaO w w5 X L c S t) (hl:LaidR w5 w6 v css ns) (a b d:Value):Below w.heap.size w (((w6.setCell ⟨w.heap.size,0,none⟩ a).setCell ⟨w.heap.size,0,none⟩ b).setCell ⟨w.heap.size,1,none⟩ d):=
  (((h.below.trans (hl.below.mono h.below.size)).setCell (p:=⟨w.heap.size,0,none⟩) (Nat.le_refl _) a).setCell (p:=⟨w.heap.size,0,none⟩) (Nat.le_refl _) b).setCell (p:=⟨w.heap.size,1,none⟩) (Nat.le_refl _) d
theorem fin_ns {w5 w6:World} {z:Nat} {v:Value} {css:List (List Value)} {ns:List Nd} {t:TypeId} (hz:w6.heap[z]? =some (.cells PZ t (0,0))) (hl:LaidR w5 w6 v css ns) (hf:fullNs ns=true) (a b:Value):NsAt (((w6.setCell ⟨z,0,none⟩ a).setCell ⟨z,0,none⟩ b).setCell ⟨z,1,none⟩ (.int .i64 0)) v ns:=
  ns_turn hz (fun k hk=>by rw[Below.heap_setCell _ _ _ _ (by exact hk),Below.heap_setCell _ _ _ _ (by exact hk),Below.heap_setCell _ _ _ _ (by exact hk)])
    (cell_plain (heap_setCell_same _ _ 1 _ _ (.int .i64 0) (heap_setCell_same _ _ 0 _ _ b (heap_setCell_same _ _ 0 _ _ a hz))) 1) hl.ns hf
set_option maxHeartbeats 4000000 in
set_option maxRecDepth 10000 in
theorem pparse_much (s:ByteArray) (w:World) (hS:Signs (w.alloc (.cells PZ 24))) {ts:List Tk} (hm:tokB s= .ok ts) (he:(scriptM ⟨ts,0,0⟩).2.err=0) (h200:200<(laidM (scriptM ⟨ts,0,0⟩).1 []).length):Calls Tryz.prog 11 #[.string s] w fun e w'=>PaEnd w w' e s:=by
  have HT:=yH (show Calls _ _ _ _ (fun e w'=> ∃G c,e= .returned (.tuple #[.slice (some ⟨G,0,none⟩) ts.length c,.int .i64 (s.size:Int),.int .i64 0])∧ts.length≤c∧ToksAt w' G 0 ts∧GoodS ⟨ts,0,0⟩∧Below (w.alloc (.cells PZ 24)).heap.size (w.alloc (.cells PZ 24)) w')from by
    have:=ptok_any s _ hS;unfold TkEnd at this;rw[hm]at this
    exact this)
  have HB:=yH (below_new w)
  have HP:=yH (show ∀e w',(match parseM ts with
    | .ok ns=> ∃v,e= .returned (.tuple #[.agg #[v,.int .i64 0],.int .i64 (s.size:Int),.int .i64 0])∧(∃p c,v= .slice p ns.length c)∧(fullNs ns=true→NsAt w' v ns)∧Below w.heap.size w w'
    | .error (n,c)=>c≠0∧e= .returned (.tuple #[.agg PZ,.int .i64 (n:Int),.int .i64 (c:Int)])∧Below w.heap.size w w')→PaEnd w w' e s from fun e w' h=>by
    unfold PaEnd parseB;rw[hm]
    exact h)
  refine Calls.mono ?_ HP.out;clear hm hS HP;have HM:=yH (show parseM ts=if (scriptM ⟨ts,0,0⟩).2.err≠0 then .error ((scriptM ⟨ts,0,0⟩).2.at_,(scriptM ⟨ts,0,0⟩).2.err)else if 200<(laidM (scriptM ⟨ts,0,0⟩).1 []).length then .error (0,3)else .ok (laidM (scriptM ⟨ts,0,0⟩).1 [])from rfl);obtain⟨r,hr⟩:∃r,scriptM ⟨ts,0,0⟩=r:=⟨_,rfl⟩;rw[hr]at HM he h200;obtain⟨ns,hns⟩:∃ns,laidM r.1 []=ns:=⟨_,rfl⟩;rw[hns]at HM h200;have HM2:=yH (show parseM ts= .error (0,3)from by rw[HM.out,if_neg (by rw[he];decide),if_pos h200]);rw[HM2.out];have HNS:=yH hns;obtain⟨K,hK⟩:∃K,ns.length=K:=⟨_,rfl⟩;rw[hK]at h200;have HK:=yH hK;clear hns hK HM HM2;have h2:(200:Int)<(K:Int):=(by omega);clear h200;have HR:=yH hr;obtain⟨N,hN⟩:∃N,ts.length=N:=⟨_,rfl⟩;have HN:=yH hN;rw[hN]at HT;clear hr hN;have he0:(((0:Nat):Int) !=0)=false:=rfl;have HE:=yH he;clear he;go_enter Tryz.func11,Tryz.ntmps11
  go_wp2_with (first
    |(go_at_call 18;refine HT.out.mono ?_;rintro en w2 ⟨G,c,rfl,hle,htk,hgood,hb⟩;have HZ:=yH ((hb.block w.heap.size (by simp)).trans (heap_alloc_new w _));have HBB:=yH ((HB.out _).trans (hb.mono (HB.out _).size));have HTK:=yH (And.intro hle (And.intro htk hgood));clear hle htk hgood hb)
    |(go_at_call 19;obtain⟨w3,hw3⟩:∃w3,w3=w2.alloc (.cells #[.slice (some ⟨G,0,none⟩) N c,.int .i64 0,.int .i64 0] 53):=⟨_,rfl⟩;have HPR:=yH (show Pr w2 w3 w2.heap.size ⟨ts,0,0⟩from ⟨G,0,c,(by rw[hw3];exact below_new _ _),Nat.le_refl _,(by rw[hw3,←HN.out];exact heap_alloc_new w2 _),(by have:=HTK.out.1;rw[←HN.out]at this;exact this),HTK.out.2.1,HTK.out.2.2⟩);have HW3:=yH hw3;rw[←hw3];clear hw3;refine(pscript_any HPR.out).mono ?_;rintro en w4 ⟨cs,rfl,hcel,hnew,hs⟩;rw[HR.out]at hnew hs;have HPA:=yH (PaO.make HZ.out HBB.out HW3.out hcel hnew hs);have HCS:=yH hcel;clear hcel hnew hs)
    |(refine wpList_store_row (by rfl) 56 (.tmp 7) (.tmp 21) (by rfl) w4.heap.size cs.toArray (by rfl) (by rfl) 56 zeroN.toArray (heap_alloc_new w4 _) (by rw[node_info];simp[HCS.out.1]) (by simp[HCS.out.1,zeroN,ofC]) (all_oneCell_toArray HCS.out.2) ?_;rw[World.setRow_alloc_new];obtain⟨w5,hw5⟩:∃w5,w4.alloc (.cells cs.toArray 56)=w5:=⟨_,rfl⟩;have hpa:=HPA.out;rw[hw5]at hpa ⊢;clear hw5;obtain⟨rv,hrd⟩:=hpa.rd;rw[HE.out]at hrd;have x2:w5.cell? ⟨w2.heap.size,2,none⟩=some (.int .i64 0):=cell_plain hrd 2;have HP5:=yH hpa;clear hpa hrd)
    |(refine wpList_load_row (by rfl) 56 (.tmp 7) (by rfl) w4.heap.size (by rfl) 56 cs.toArray (0,0) _ HP5.out.box Tryz.underlying56 rfl (by rw[node_info];simp[HCS.out.1]) ?_)
    |(go_at_call 20;have HSZ:=yH (good_size HTK.out.2.2 HR.out);refine(plaid_any _ r.1 (Nat.le_refl _) w5 w5 cs (.slice none 0 0) [] [] HP5.out.tree (LaidR.nil w5) HSZ.out).mono ?_;rintro en w6 ⟨v6,css6,rfl,hl6⟩;rw[HNS.out]at hl6;obtain⟨p6,c6,hv6⟩:=hl6.row.shape;subst hv6;rw[HK.out]at hl6 ⊢;have HL6:=yH hl6;have HZ6:=yH (laid_z HP5.out hl6);have z0:w6.cell? ⟨w.heap.size,0,none⟩=some (.slice none 0 0):=cell_plain HZ6.out 0;have g0:=frozen_plain HZ6.out 0;have z1:w6.cell? ⟨w.heap.size,1,none⟩=some (.int .i64 0):=cell_plain HZ6.out 1;have g1:=frozen_plain HZ6.out 1;clear hl6))
  (try simp only[Exit.inBlock,Exit.then])
  refine bodyPost_ret (ret_prog (cs:=PZ) rfl (heap_setCell_same _ _ 1 _ _ (.int .i64 0) (heap_setCell_same _ _ 0 _ _ (.slice none 0 0) (heap_setCell_same _ _ 0 _ _ (.slice p6 K c6) HZ6.out))) rfl rfl rfl rfl) rfl ?_;exact⟨by decide,rfl,fin_below HP5.out HL6.out _ _ _⟩
set_option maxHeartbeats 4000000 in
set_option maxRecDepth 10000 in
theorem pparse_good (s:ByteArray) (w:World) (hS:Signs (w.alloc (.cells PZ 24))) {ts:List Tk} (hm:tokB s= .ok ts) (he:(scriptM ⟨ts,0,0⟩).2.err=0) (h200:¬200<(laidM (scriptM ⟨ts,0,0⟩).1 []).length):Calls Tryz.prog 11 #[.string s] w fun e w'=>PaEnd w w' e s:=by
  have HT:=yH (show Calls _ _ _ _ (fun e w'=> ∃G c,e= .returned (.tuple #[.slice (some ⟨G,0,none⟩) ts.length c,.int .i64 (s.size:Int),.int .i64 0])∧ts.length≤c∧ToksAt w' G 0 ts∧GoodS ⟨ts,0,0⟩∧Below (w.alloc (.cells PZ 24)).heap.size (w.alloc (.cells PZ 24)) w')from by
    have:=ptok_any s _ hS;unfold TkEnd at this;rw[hm]at this
    exact this)
  have HB:=yH (below_new w)
  have HP:=yH (show ∀e w',(match parseM ts with
    | .ok ns=> ∃v,e= .returned (.tuple #[.agg #[v,.int .i64 0],.int .i64 (s.size:Int),.int .i64 0])∧(∃p c,v= .slice p ns.length c)∧(fullNs ns=true→NsAt w' v ns)∧Below w.heap.size w w'
    | .error (n,c)=>c≠0∧e= .returned (.tuple #[.agg PZ,.int .i64 (n:Int),.int .i64 (c:Int)])∧Below w.heap.size w w')→PaEnd w w' e s from fun e w' h=>by
    unfold PaEnd parseB;rw[hm]
    exact h)
  refine Calls.mono ?_ HP.out;clear hm hS HP;have HM:=yH (show parseM ts=if (scriptM ⟨ts,0,0⟩).2.err≠0 then .error ((scriptM ⟨ts,0,0⟩).2.at_,(scriptM ⟨ts,0,0⟩).2.err)else if 200<(laidM (scriptM ⟨ts,0,0⟩).1 []).length then .error (0,3)else .ok (laidM (scriptM ⟨ts,0,0⟩).1 [])from rfl);obtain⟨r,hr⟩:∃r,scriptM ⟨ts,0,0⟩=r:=⟨_,rfl⟩;rw[hr]at HM he h200;obtain⟨ns,hns⟩:∃ns,laidM r.1 []=ns:=⟨_,rfl⟩;rw[hns]at HM h200;have HM2:=yH (show parseM ts= .ok ns from by rw[HM.out,if_neg (by rw[he];decide),if_neg h200]);rw[HM2.out];have HNS:=yH hns;obtain⟨K,hK⟩:∃K,ns.length=K:=⟨_,rfl⟩;rw[hK]at h200;have HK:=yH hK;clear hns hK HM HM2;have h2:¬(200:Int)<(K:Int):=(by omega);clear h200;have HR:=yH hr;obtain⟨N,hN⟩:∃N,ts.length=N:=⟨_,rfl⟩;have HN:=yH hN;rw[hN]at HT;clear hr hN;have he0:(((0:Nat):Int) !=0)=false:=rfl;have HE:=yH he;clear he;go_enter Tryz.func11,Tryz.ntmps11
  go_wp2_with (first
    |(go_at_call 18;refine HT.out.mono ?_;rintro en w2 ⟨G,c,rfl,hle,htk,hgood,hb⟩;have HZ:=yH ((hb.block w.heap.size (by simp)).trans (heap_alloc_new w _));have HBB:=yH ((HB.out _).trans (hb.mono (HB.out _).size));have HTK:=yH (And.intro hle (And.intro htk hgood));clear hle htk hgood hb)
    |(go_at_call 19;obtain⟨w3,hw3⟩:∃w3,w3=w2.alloc (.cells #[.slice (some ⟨G,0,none⟩) N c,.int .i64 0,.int .i64 0] 53):=⟨_,rfl⟩;have HPR:=yH (show Pr w2 w3 w2.heap.size ⟨ts,0,0⟩from ⟨G,0,c,(by rw[hw3];exact below_new _ _),Nat.le_refl _,(by rw[hw3,←HN.out];exact heap_alloc_new w2 _),(by have:=HTK.out.1;rw[←HN.out]at this;exact this),HTK.out.2.1,HTK.out.2.2⟩);have HW3:=yH hw3;rw[←hw3];clear hw3;refine(pscript_any HPR.out).mono ?_;rintro en w4 ⟨cs,rfl,hcel,hnew,hs⟩;rw[HR.out]at hnew hs;have HPA:=yH (PaO.make HZ.out HBB.out HW3.out hcel hnew hs);have HCS:=yH hcel;clear hcel hnew hs)
    |(refine wpList_store_row (by rfl) 56 (.tmp 7) (.tmp 21) (by rfl) w4.heap.size cs.toArray (by rfl) (by rfl) 56 zeroN.toArray (heap_alloc_new w4 _) (by rw[node_info];simp[HCS.out.1]) (by simp[HCS.out.1,zeroN,ofC]) (all_oneCell_toArray HCS.out.2) ?_;rw[World.setRow_alloc_new];obtain⟨w5,hw5⟩:∃w5,w4.alloc (.cells cs.toArray 56)=w5:=⟨_,rfl⟩;have hpa:=HPA.out;rw[hw5]at hpa ⊢;clear hw5;obtain⟨rv,hrd⟩:=hpa.rd;rw[HE.out]at hrd;have x2:w5.cell? ⟨w2.heap.size,2,none⟩=some (.int .i64 0):=cell_plain hrd 2;have HP5:=yH hpa;clear hpa hrd)
    |(refine wpList_load_row (by rfl) 56 (.tmp 7) (by rfl) w4.heap.size (by rfl) 56 cs.toArray (0,0) _ HP5.out.box Tryz.underlying56 rfl (by rw[node_info];simp[HCS.out.1]) ?_)
    |(go_at_call 20;have HSZ:=yH (good_size HTK.out.2.2 HR.out);refine(plaid_any _ r.1 (Nat.le_refl _) w5 w5 cs (.slice none 0 0) [] [] HP5.out.tree (LaidR.nil w5) HSZ.out).mono ?_;rintro en w6 ⟨v6,css6,rfl,hl6⟩;rw[HNS.out]at hl6;obtain⟨p6,c6,hv6⟩:=hl6.row.shape;subst hv6;rw[HK.out]at hl6 ⊢;have HL6:=yH hl6;have HZ6:=yH (laid_z HP5.out hl6);have z0:w6.cell? ⟨w.heap.size,0,none⟩=some (.slice none 0 0):=cell_plain HZ6.out 0;have g0:=frozen_plain HZ6.out 0;have z1:w6.cell? ⟨w.heap.size,1,none⟩=some (.int .i64 0):=cell_plain HZ6.out 1;have g1:=frozen_plain HZ6.out 1;clear hl6))
  (try simp only[Exit.inBlock,Exit.then])
  refine bodyPost_ret (ret_prog (cs:= #[.slice p6 K c6,.int .i64 0]) rfl (heap_setCell_same _ _ 1 _ _ (.int .i64 0) (heap_setCell_same _ _ 0 _ _ (.slice p6 K c6) (heap_setCell_same _ _ 0 _ _ (.slice p6 K c6) HZ6.out))) rfl rfl rfl rfl) rfl ?_;exact⟨_,rfl,⟨p6,c6,by rw[HK.out]⟩,fun hf=>fin_ns HZ6.out HL6.out hf _ _,fin_below HP5.out HL6.out _ _ _⟩
end Go.Proofs.YtakceggnadagmaaGreatDoor
namespace Go.Proofs.YtakceggnadagmaaGreatDoor.ParseMath
open Go Go.Lib GlyphMath LexMath TreeMath
def parseN (sz:Nat) (xs:List Nat):Except (Nat×Nat) (List Nd):=match tokensL sz (xs.length+1) xs []with
  | .ok ts=>parseM ts
  | .error x=> .error x
def knownN:List Nat:= [97,59,32,98,32,38,38,32,99]
def knownTell:Except (Nat×Nat) (List Nd)→Bool
  | .ok ns=>decide (ns.length=5)&&decide ((ns[0]?.map (·.op))=some [115,101,113])&&decide ((ns[2]?.map (·.op))=some [97,110,100])
  | .error _=>false
theorem known_chk:knownTell (parseN 9 knownN)=true:=by decide+kernel
end Go.Proofs.YtakceggnadagmaaGreatDoor.ParseMath
namespace Go.Proofs.YtakceggnadagmaaGreatDoor
open Go Go.RowKit GlyphMath LexMath TreeMath ParseMath
theorem signs_new {w:World} (hS:Signs w) (o:Obj):Signs (w.alloc o):=hS.kept (D:=fun _=>False) (Kept.of_below (below_new w o)) fun h=>h
theorem signs_below {w w':World} (hS:Signs w) (hb:Below w.heap.size w w'):Signs w':=hS.kept (D:=fun _=>False) (Kept.of_below hb) fun h=>h
theorem pparse_any (s:ByteArray) (w:World) (hS:Signs w):Calls Tryz.prog 11 #[.string s] w fun e w'=>PaEnd w w' e s:=by
  cases hm:tokB s with
  |error x=>
    obtain⟨n,c⟩:=x;exact pparse_bad s w (signs_new hS _) hm
  |ok ts=>
    by_cases he:(scriptM ⟨ts,0,0⟩).2.err=0
    · by_cases h2:200<(laidM (scriptM ⟨ts,0,0⟩).1 []).length
      · exact pparse_much s w (signs_new hS _) hm he h2
      · exact pparse_good s w (signs_new hS _) hm he h2
    · exact pparse_fail s w (signs_new hS _) hm he
theorem parseB_low {s:ByteArray} {xs:List Nat} (hx:s.data.toList.map (·.toNat)=xs) (hl:∀b∈s.data.toList,0<b.toNat∧b.toNat<128) (hn:xs.length≤2000):parseB s=parseN xs.length xs:=by
  have hz:s.size=xs.length:=(by rw[←hx,List.length_map];rfl);have ht:isText s=true:=(by unfold isText;rw[firstBad_low _ hl];rfl);unfold parseB tokB parseN;rw[if_neg (by omega),if_neg (by rw[ht];decide),letters_low _ fun b hb=>(hl b hb).2,hx,hz]
  try (cases tokensL xs.length (xs.length+1) xs []<;>rfl)
def knownB:ByteArray:=⟨#[97,59,32,98,32,38,38,32,99]⟩
def knownFull:Except (Nat×Nat) (List Nd)→Bool
  | .ok ns=>fullNs ns
  | .error _=>false
theorem known_full:knownFull (parseN 9 knownN)=true:=by decide+kernel
theorem op_of {ns:List Nd} {k:Nat} {o:List UInt8} (h:(ns[k]?.map (·.op))=some o):∃n,ns[k]? =some n∧n.op=o:=by
  cases hk:ns[k]? with
  |none=>rw[hk]at h;cases h
  |some n=>rw[hk]at h;exact⟨n,rfl,by simpa using h⟩
theorem known_says:∃ns n0 n2,parseB knownB= .ok ns∧ns.length=5∧(ns[0]? =some n0∧n0.op= [115,101,113])∧(ns[2]? =some n2∧n2.op= [97,110,100])∧fullNs ns=true:=by
  have h1:=known_chk;have h2:=known_full;have hb:parseB knownB=parseN 9 knownN:=parseB_low (xs:=knownN) (by decide) (by decide) (by decide);rw[hb]
  cases hm:parseN 9 knownN with
  |error x=>rw[hm]at h1;cases h1
  |ok ns=>
    rw[hm]at h1 h2;simp only[knownTell,Bool.and_eq_true,decide_eq_true_eq]at h1;obtain⟨⟨a,b⟩,c⟩:=h1;obtain⟨n0,b1,b2⟩:=op_of b;obtain⟨n2,c1,c2⟩:=op_of c;exact⟨ns,n0,n2,rfl,a,⟨b1,b2⟩,⟨c1,c2⟩,h2⟩
theorem ns_op {w:World} {v:Value} {ns:List Nd} {k:Nat} {n:Nd} (h:NsAt w v ns) (hk:ns[k]? =some n):∃b o c,v= .slice (some ⟨b,o,none⟩) ns.length c∧w.cell? ⟨b,o+k*7,none⟩=some (txt n.op):=by
  obtain⟨⟨p,c,rfl,hx⟩, -⟩:=h;obtain⟨cs,⟨b,o,rfl,hs⟩,⟨kv,wv,pv,av,rv,rfl, -⟩⟩:=hx k n hk;exact⟨b,o,c,rfl,hs 0 _ rfl⟩
set_option maxHeartbeats 4000000 in
set_option maxRecDepth 100000 in
theorem known_any (w:World) (hS:Signs w):Calls Tryz.prog 14 #[] w fun e w'=>e= .returned (.bool true)∧Below w.heap.size w w':=by
  have HT:=yH (show Calls Tryz.prog 11 #[.string ⟨#[97,59,32,98,32,38,38,32,99]⟩] w (fun e w'=> ∃b o c,e= .returned (.tuple #[.agg #[.slice (some ⟨b,o,none⟩) 5 c,.int .i64 0],.int .i64 9,.int .i64 0])∧w'.cell? ⟨b,o,none⟩=some (.string ⟨#[115,101,113]⟩)∧w'.cell? ⟨b,o+14,none⟩=some (.string ⟨#[97,110,100]⟩)∧Below w.heap.size w w')from by
    refine(pparse_any knownB w hS).mono fun e w' h=> ?_;obtain⟨ns,n0,n2,h1,h2,⟨h3,h4⟩,⟨h5,h6⟩,h7⟩:=known_says;unfold PaEnd at h;rw[h1]at h;obtain⟨v,rfl, -,hn,hb⟩:=h;obtain⟨b,o,c,rfl,c0⟩:=ns_op (hn h7) h3;obtain⟨b',o',c',e2,c2⟩:=ns_op (hn h7) h5;simp only[Value.slice.injEq,Option.some.injEq,Addr.mk.injEq,and_true,true_and]at e2;obtain⟨⟨rfl,rfl⟩,rfl⟩:=e2;rw[h4]at c0;rw[h6]at c2;rw[h2]
    exact⟨b,o,c,rfl,by rw[Nat.zero_mul,Nat.add_zero]at c0;exact c0,c2,hb⟩)
  clear hS;go_enter Tryz.func14,Tryz.ntmps14
  go_wp2_with (go_at_call 11;refine HT.out.mono ?_;rintro e w1 ⟨b,o,c,rfl,c0,c2,hb⟩;have HB:=yH hb;have k0:=cell_alloc c0 (.cells #[.slice (some ⟨b,o,none⟩) 5 c,.int .i64 0] 24);have k2:=cell_alloc c2 (.cells #[.slice (some ⟨b,o,none⟩) 5 c,.int .i64 0] 24);clear hb)
  go_ret;exact⟨rfl,HB.out.alloc HB.out.size _⟩
def lowB (s:ByteArray):Bool:=s.data.toList.all fun b=>decide (0<b.toNat)&&decide (b.toNat<128)
theorem lowB_is {s:ByteArray} (h:lowB s=true):∀b∈s.data.toList,0<b.toNat∧b.toNat<128:=by
  unfold lowB at h
  simpa only[List.all_eq_true,Bool.and_eq_true,decide_eq_true_eq]using h
theorem pair_one (w:World) (o p:Obj):((w.alloc o).alloc p).heap[w.heap.size]? =some o:=(Below.heap_alloc _ p _ (by rw[World.size_alloc];omega)).trans (heap_alloc_new w o)
theorem pair_two (w:World) (o p:Obj):((w.alloc o).alloc p).heap[w.heap.size+1]? =some p:=by
  have:=heap_alloc_new (w.alloc o) p
  rwa [World.size_alloc]at this
theorem pair_below (w:World) (o p:Obj):Below w.heap.size w ((w.alloc o).alloc p):=(below_new w o).alloc (by rw[World.size_alloc];omega) p
end Go.Proofs.YtakceggnadagmaaGreatDoor
namespace Go.Proofs.YtakceggnadagmaaGreatDoor.ShowMath
open Go Go.Lib GlyphMath LexMath TreeMath
def escT:List UInt8→List UInt8
  | []=> []
  |c::r=>if c=34∨c=36∨c=92 then 92::c::escT r else c::escT r
def quotedT (s:List UInt8):List UInt8:=34::(escT s++ [34])
def bareS (row:List Pt→List UInt8) (p:Pt):List UInt8:=
  if p.kind=2 then(if p.op= [35]then [36,123,35]++p.text++ [125]else [36,123]++p.text++p.op++row p.word++ [125])
  else [36,40,40]++p.text++ [41,41]
def partS (row:List Pt→List UInt8) (p:Pt):List UInt8:=
  if p.kind=1 then(if p.q then quotedT p.text else p.text)
  else if p.q then [34]++bareS row p++ [34]else bareS row p
def rowS:Nat→List Pt→List UInt8
  |0,_=> []
  |k+1,ps=>(ps.map (partS (rowS k))).flatten
def depS:Nat→List Pt→Bool
  |0,ps=>ps.isEmpty
  |k+1,ps=>ps.all fun p=>depS k p.word
def wordS (ps:List Pt):List UInt8:=rowS 22 ps
def wordsS (l:List (List Pt)):List UInt8:=(l.map fun x=> [32]++wordS x).flatten
def redirsS (l:List (List UInt8×List Pt)):List UInt8:=(l.map fun x=> [32]++x.1++ [32]++wordS x.2).flatten
def assignsS (l:List (List UInt8×List Pt)):List UInt8:=(l.map fun x=> [32]++x.1++ [61]++wordS x.2).flatten
def cmdS (n:Nd):List UInt8:=(assignsS n.assigns++(wordsS n.words++redirsS n.redirs)).tail
def joinS (sep:List UInt8):List (List UInt8)→List UInt8
  | []=> []
  |a::r=>a++(r.map (sep++ ·)).flatten
def patS (l:List (List Pt)):List UInt8:=joinS [32,124,32] (l.map wordS)
def arms:List (List (List Pt))→List (List UInt8)→List UInt8
  |p::ps,k::ks=>([40]++patS p++([41,32]++k++ [59,59,32]))++arms ps ks
  |_,_=> []
def casesS (n:Nd) (ks:List (List UInt8)):List UInt8:= [99,97,115,101]++wordsS n.words++ [32,105,110,32]++arms n.pats ks++ [101,115,97,99]
def ifS:List (List UInt8)→List UInt8
  | [a,b]=> [105,102,32]++a++ [59,32,116,104,101,110,32]++b++ [59,32]++ [102,105]
  | [a,b,c]=> [105,102,32]++a++ [59,32,116,104,101,110,32]++b++ [59,32]++ [101,108,115,101,32]++c++ [59,32]++ [102,105]
  |_=> []
def at0 (ks:List (List UInt8)) (i:Nat):List UInt8:=ks.getD i []
def loopS (op:List UInt8) (ks:List (List UInt8)):List UInt8:=op++ [32]++at0 ks 0++ [59,32,100,111,32]++at0 ks 1++ [59,32,100,111,110,101]
def forS (n:Nd) (ks:List (List UInt8)):List UInt8:= [102,111,114,32]++n.name++ [32,105,110]++wordsS n.words++(if n.words.isEmpty then [32]else [])++ [59,32,100,111,32]++at0 ks 0++ [59,32,100,111,110,101]
def compS (n:Nd) (ks:List (List UInt8)):List UInt8:=
  if n.op= [105,102]then ifS ks
  else if n.op= [119,104,105,108,101]∨n.op= [117,110,116,105,108]then loopS n.op ks
  else if n.op= [102,111,114]then forS n ks
  else if n.op= [99,97,115,101]then casesS n ks
  else if n.op= [103,114,111,117,112]then [123,32]++at0 ks 0++ [59,32,125]
  else [40,32]++at0 ks 0++ [32,41]
def nodeT (n:Nd) (ks:List (List UInt8)):List UInt8:=
  if n.op= [99,109,100]then cmdS n
  else if n.op= [115,101,113]then joinS [59,32] ks
  else if n.op= [97,110,100]then joinS [32,38,38,32] ks
  else if n.op= [111,114]then joinS [32,124,124,32] ks
  else if n.op= [112,105,112,101]then joinS [32,124,32] ks
  else if n.op= [110,111,116]then [33,32]++at0 ks 0
  else if n.op= [102,117,110]then n.name++ [40,41,32]++at0 ks 0
  else compS n ks++redirsS n.redirs
def nodeS (ns:List Nd):Nat→Nat→List UInt8
  |0,_=> []
  |f+1,i=>match ns[i]? with
    |none=> []
    |some n=>nodeT n (n.kids.map fun k=>nodeS ns f k.toNat)
def textS (ns:List Nd):List UInt8:=nodeS ns ns.length 0
def hasS (n:Nd):Bool:=
  if n.op= [99,109,100]then !(n.assigns.isEmpty&&(n.words.isEmpty&&n.redirs.isEmpty))
  else if n.op= [105,102]then n.kids.length==2||n.kids.length==3
  else if n.op= [119,104,105,108,101]∨n.op= [117,110,116,105,108]then n.kids.length==2
  else if n.op= [102,111,114]then n.kids.length==1
  else if n.op= [99,97,115,101]then n.pats.length==n.kids.length&&n.pats.all fun p=> !p.isEmpty
  else !n.kids.isEmpty
def depN (n:Nd):Bool:=n.words.all (depS 22)&&(n.pats.all (fun p=>p.all (depS 22))&&(n.assigns.all (fun a=>depS 22 a.2)&&n.redirs.all fun a=>depS 22 a.2))
def okS (ns:List Nd):Nat→Nat→Bool
  |0,_=>false
  |f+1,i=>match ns[i]? with
    |none=>false
    |some n=>hasS n&&(depN n&&n.kids.all fun k=>decide (0≤k)&&okS ns f k.toNat)
theorem T_append (a b:List UInt8):T (a++b)=T a++T b:=by
  apply ByteArray.ext;simp[T]
end Go.Proofs.YtakceggnadagmaaGreatDoor.ShowMath
namespace Go.Proofs.YtakceggnadagmaaGreatDoor.ShowMath
open Go Go.Lib GlyphMath LexMath TreeMath ParseMath
def orderN:List (List Nat):= [[97,32,38,38,32,98,32,124,124,32,99],[33,32,97,32,124,32,98,32,38,38,32,99],[97,59,32,98,10,99],[105,102,32,97,59,32,116,104,101,110,32,98,59,32,101,108,105,102,32,99,59,32,116,104,101,110,32,100,59,32,101,108,115,101,32,101,59,32,102,105],[119,104,105,108,101,32,97,59,32,100,111,32,98,59,32,100,111,110,101,32,62,32,102],[120,61,49,32,121,61,32,122,32,119,61,50,32,60,102],[102,40,41,32,123,32,97,59,32,125],[99,97,115,101,32,36,120,32,105,110,32,40,97,124,98,41,32,99,59,59,32,42,41,32,100,59,59,32,101,115,97,99],[102,111,114,32,105,32,105,110,32,97,32,98,10,100,111,32,99,59,32,100,111,110,101],[40,32,97,59,32,98,32,41,32,124,32,123,32,99,59,32,125],[117,110,116,105,108,32,97,10,100,111,10,98,10,100,111,110,101],[97,32,35,32,98,10,99],[101,99,104,111,32,105,102,32,116,104,101,110],[34,105,102,34,32,97],[97,10,10],[10,10,97,32,38,38,10,98]]
def wantN:List (List UInt8):= [[97,32,38,38,32,98,32,124,124,32,99],[33,32,97,32,124,32,98,32,38,38,32,99],[97,59,32,98,59,32,99],[105,102,32,97,59,32,116,104,101,110,32,98,59,32,101,108,115,101,32,105,102,32,99,59,32,116,104,101,110,32,100,59,32,101,108,115,101,32,101,59,32,102,105,59,32,102,105],[119,104,105,108,101,32,97,59,32,100,111,32,98,59,32,100,111,110,101,32,62,32,102],[120,61,49,32,121,61,34,34,32,122,32,119,61,50,32,60,32,102],[102,40,41,32,123,32,97,59,32,125],[99,97,115,101,32,36,123,120,125,32,105,110,32,40,97,32,124,32,98,41,32,99,59,59,32,40,42,41,32,100,59,59,32,101,115,97,99],[102,111,114,32,105,32,105,110,32,97,32,98,59,32,100,111,32,99,59,32,100,111,110,101],[40,32,97,59,32,98,32,41,32,124,32,123,32,99,59,32,125],[117,110,116,105,108,32,97,59,32,100,111,32,98,59,32,100,111,110,101],[97,59,32,99],[101,99,104,111,32,105,102,32,116,104,101,110],[34,105,102,34,32,97],[97],[97,32,38,38,32,98]]
def smP:Nat→List Pt→Bool
  |0,ps=>ps.isEmpty
  |k+1,ps=>ps.all fun p=>decide (p.text.length≤1048576)&&smP k p.word
def smN (n:Nd):Bool:=n.words.all (smP 22)&&(n.pats.all (fun p=>p.all (smP 22))&&(n.assigns.all (fun a=>decide (a.1.length≤1048576)&&smP 22 a.2)&&(n.redirs.all (fun a=>smP 22 a.2)&&decide (n.name.length≤1048576))))
def fewN (n:Nd):Bool:=decide (n.kids.length≤1048576)&&(decide (n.words.length≤1048576)&&(decide (n.assigns.length≤1048576)&&decide (n.redirs.length≤1048576)))
def orderTell (want:List UInt8):Except (Nat×Nat) (List Nd)→Bool
  | .ok ns=>isT ns 0&&(okS ns ns.length 0&&(decide (textS ns=want)&&(ns.all smN&&ns.all fewN)))
  | .error _=>false
def orderChk (i:Nat):Bool:=orderTell (wantN.getD i []) (parseN (orderN.getD i []).length (orderN.getD i []))&&(decide ((orderN.getD i []).length≤60)&&decide ((wantN.getD i []).length≤60))
set_option maxRecDepth 100000 in
theorem order_chk:∀i,i<16→orderChk i=true:=by decide+kernel
end Go.Proofs.YtakceggnadagmaaGreatDoor.ShowMath
namespace Go.Proofs.YtakceggnadagmaaGreatDoor
open Go Go.RowKit GlyphMath
def rc (l:List Nat):List Value:=l.map fun (x:Nat)=>Value.int .i32 (x:Int)
theorem rc_add (l:List Nat) (x:Nat):rc (l++ [x])=rc l++ [.int .i32 (x:Int)]:=by simp[rc]
def RowL (w:World) (B:Nat) (v:Value) (l:List Nat):Prop:=w.ownsRow B 21 1 v l.length (rc l)
theorem grown_of_below {w w':World} (h:Below w.heap.size w w'):w.grownBy w' none:=⟨h.os,h.tape,h.output,h.size,fun k hk _=>h.block k hk⟩
theorem RowL.below {w w':World} {B:Nat} {v:Value} {l:List Nat} (h:RowL w B v l) (hb:Below w.heap.size w w'):RowL w' B v l:=by
  refine World.ownsRow.kept h (grown_of_below hb) ?_
  cases hv:v.ownBlock with
  |none=>exact .inl rfl
  |some k=>exact .inr (by simp)
theorem RowL.nil (w:World) (B:Nat):RowL w B (.slice none 0 0) []:=World.ownsRow_nil _ _ _ _
theorem RowL.is {w:World} {B:Nat} {v:Value} {l:List Nat} (h:RowL w B v l):(v= .slice none 0 0∧l= [])∨∃g c,v= .slice (some ⟨g,0,none⟩) l.length c:=by
  rcases h.2 with ⟨hv,hn⟩|⟨g,cap,cur,hv, -⟩
  · exact .inl ⟨hv,List.eq_nil_of_length_eq_zero hn⟩
  · exact .inr ⟨g,cap,hv⟩
theorem info32:(Tryz.prog.info? 21).map (fun i=>(i.zero,i.size,i.bytes))=some (some (.int .i32 0),1,4):=by kernel_rfl
theorem RowL.cell {w:World} {B g c:Nat} {l:List Nat} (h:RowL w B (.slice (some ⟨g,0,none⟩) l.length c) l) (j:Nat) (hj:j<l.length):w.cell? ⟨g,j,none⟩=some (.int .i32 (l[j]:Nat)):=by
  rw[World.ownsRow.cellAt h j (by omega)];simp[rc,hj]
def Tabs (w:World):Prop:=Lib.Utf8Tabs 1 2 w
theorem Tabs.below {w w':World} (h:Tabs w) (hb:Below w.heap.size w w'):Tabs w':=
  ⟨fun c hc=>(hb.cell (World.block_lt_of_cell? w _ (h.1 c hc))).trans (h.1 c hc),fun i hi=>⟨(hb.cell (World.block_lt_of_cell? w _ (h.2 i hi).1)).trans (h.2 i hi).1,(hb.cell (World.block_lt_of_cell? w _ (h.2 i hi).2)).trans (h.2 i hi).2⟩⟩
theorem dec_any (t:ByteArray) (w:World) (ht:0<t.size) (hT:Tabs w):
    Calls Tryz.prog 81 #[.string t] w fun e w'=>e= .returned (.tuple #[.int .i32 ((Utf8.decode t 0).1:Int),.int .i64 ((Utf8.decode t 0).2:Int)])∧Below w.heap.size w w':=by
  have h:=Tryz.utf8_DecodeRuneInString t w hT;have e:Lib.decodeGo t=Utf8.decode t 0:=(by unfold Lib.decodeGo;rw[if_neg (by omega)])
  rwa [e]at h
theorem dec_at (s:ByteArray) (i:Nat) (w:World) (hi:i<s.size) (hT:Tabs w):
    Calls Tryz.prog 81 #[.string (s.extract i s.size)] w fun e w'=>e= .returned (.tuple #[.int .i32 ((Utf8.decode s i).1:Int),.int .i64 ((Utf8.decode s i).2:Int)])∧Below w.heap.size w w':=by
  have h:=dec_any (s.extract i s.size) w (by rw[Lib.tail_size];omega) hT
  rwa [Lib.tail_decode,Nat.add_zero]at h
theorem first_is:Rows.laid_unicode_utf8_first=Lib.firstData:=by kernel_rfl
theorem accept_is:(Rows.laid_unicode_utf8_acceptRanges:DataW Unit)=Lib.acceptData:=by kernel_rfl
theorem lays260:Lays.n260 Tryz.prog Tryz.lays197_ren:= { Tryz.lays197 with }
theorem extra:U8Extra Tryz.prog Tryz.lays197_ren:=⟨by kernel_rfl,by kernel_rfl,by kernel_rfl,by kernel_rfl,by kernel_rfl,by kernel_rfl,by kernel_rfl⟩
theorem rfirst_any (r:Int) (w:World):
    Calls Tryz.prog 63 #[.int .i32 r] w fun e w'=>e= .returned (.bool (firstR r))∧w=w':=by
  go_enter Tryz.func63,Tryz.ntmps63;go_wp2_with fail
  all_goals
    go_ret;refine⟨ret_bool (bool_iff ?_),rfl⟩;unfold firstR
    first|(simp;done)|(simp;omega)
theorem rmore_any (r:Int) (w:World):
    Calls Tryz.prog 62 #[.int .i32 r] w fun e w'=>e= .returned (.bool (moreR r))∧w=w':=by
  unfold moreR
  generalize hF:firstR r=F
  have HF:=yH hF;clear hF
  cases F
  all_goals
    go_enter Tryz.func62,Tryz.ntmps62
    go_wp2_with (go_at_call 63;refine(rfirst_any r _).mono ?_;rintro e w1 ⟨rfl,rfl⟩;(try rw[HF.out]))
  all_goals
    go_ret;refine⟨ret_bool (bool_iff ?_),rfl⟩
    first|(simp;done)|(simp;omega)
theorem rest_tail (s:ByteArray) (n:Nat):∀k i,s.size-(n+i)≤k→rest (s.extract n s.size) i=rest s (n+i)
  |0,i,h=>by rw[rest_end _ _ (by rw[Lib.tail_size];omega),rest_end _ _ (by omega)]
  |k+1,i,h=>by
    by_cases hp:n+i<s.size
    · have hw:=width_pos s (n+i) hp
      rw[rest_step _ _ (by rw[Lib.tail_size];omega),rest_step _ _ hp,Lib.tail_decode,rest_tail s n k _ (by omega),Nat.add_assoc]
    · rw[rest_end _ _ (by rw[Lib.tail_size];omega),rest_end _ _ (by omega)]
theorem letters_tail (t:ByteArray) (h:0<t.size):letters t=(Utf8.decode t 0).1::letters (t.extract (Utf8.decode t 0).2 t.size):=by
  have e:=rest_step t 0 h;rw[rest_zero,Nat.zero_add]at e;rw[e,←rest_zero (t.extract _ _),rest_tail t _ t.size 0 (by omega),Nat.add_zero]
theorem rvalid_any (s:ByteArray) (w:World) (hs:s.size≤9223372036854775807) (hT:Tabs w):
    Calls Tryz.prog 47 #[.string s] w fun e w'=>e= .returned (.tuple #[.int .i64 (place s:Int),.bool (isText s)])∧Below w.heap.size w w':=by
  have HT:=yH hT;have HS:=yH hs;clear hT hs;go_enter Tryz.func47,Tryz.ntmps47;go_wp2_with fail
  go_loopw [4] (fun i wr=> ∃pos:Nat,i= .int .i64 (pos:Int)∧pos≤s.size∧badFrom s pos=firstBad s∧Below w.heap.size w wr) (fun i _=>s.size-(intOf i).toNat)
  case atStart=>exact⟨0,rfl,Nat.zero_le _,rfl,Below.refl _ _⟩
  case round=>
    obtain⟨pos,rfl,hle,hk,hb⟩:=hrel;have HB:=yH hb;have HTr:=yH (HT.out.below hb);clear hb
    by_cases hp:pos<s.size
    · obtain⟨r,d,hd⟩:∃r d,Utf8.decode s pos=(r,d):=⟨_,_,rfl⟩
      have hc:=dec_at s pos wr hp HTr.out;have hwd:=width_pos s pos hp;have hwl:=width_le s pos hp;rw[badFrom_step s pos hp,hd]at hk;unfold bad at hk;rw[hd]at hwd hwl hk hc;simp only at hk hwd hwl hc;have HC:=yH hc;have HW:=yH (And.intro hwd hwl);have hpi:(pos:Int)<s.size:=(by omega);have had:(pos:Int)+d≤9223372036854775807:=(by have:=HS.out;omega);have E1:=yH (fun (h:badFrom s (pos+d)=firstBad s)=>h);clear hd hc hwd hwl hp
      by_cases b0:r=0
      · subst b0
        have E:=yH (show place s=pos∧isText s=false by constructor<;>(first|unfold place|unfold isText)<;>rw[←hk]<;>rfl);clear hk E1
        go_wp2_with (go_at_call 81;refine HC.out.mono ?_;rintro e w1 ⟨rfl,hb1⟩;have H1:=yH hb1;clear hb1)
        go_ret2
        exact⟨by rw[E.out.1,E.out.2];rfl,HB.out.trans (H1.out.mono HB.out.size)⟩
      · have b0':((r:Int)==0)=false:=by simpa using b0
        have c0:(r==0)=false:=by simpa using b0
        by_cases b1:r=65533
        · subst b1
          by_cases b2:d=1
          · subst b2
            have E:=yH (show place s=pos∧isText s=false by constructor<;>(first|unfold place|unfold isText)<;>rw[←hk]<;>rfl);clear hk E1 b0 c0
            go_wp2_with (go_at_call 81;refine HC.out.mono ?_;rintro e w1 ⟨rfl,hb1⟩;have H1:=yH hb1;clear hb1)
            go_ret2
            exact⟨by rw[E.out.1,E.out.2];rfl,HB.out.trans (H1.out.mono HB.out.size)⟩
          · have b2':((d:Int)==1)=false:=by
              have:¬(d:Int)=1:=by omega
              simpa using this
            have c2:(d==1)=false:=(by simpa using b2);have HK:=yH (show badFrom s (pos+d)=firstBad s by rw[←hk,c2];rfl);clear hk E1 b0 c0 b2 c2
            go_wp2_with (go_at_call 81;refine HC.out.mono ?_;rintro e w1 ⟨rfl,hb1⟩;have H1:=yH hb1;clear hb1)
            go_roundw
            case rel=>exact⟨pos+d,by go_num,HW.out.2,HK.out,HB.out.trans (H1.out.mono HB.out.size)⟩
            case measure=>have:=HW.out;simp[intOf];omega
        · have b1':((r:Int)==65533)=false:=by
            have:¬(r:Int)=65533:=by omega
            simpa using this
          have c1:(r==65533)=false:=(by simpa using b1);have HK:=yH (show badFrom s (pos+d)=firstBad s by rw[←hk,c0,c1];rfl);clear hk E1 b0 c0 b1 c1
          go_wp2_with (go_at_call 81;refine HC.out.mono ?_;rintro e w1 ⟨rfl,hb1⟩;have H1:=yH hb1;clear hb1)
          go_roundw
          case rel=>exact⟨pos+d,by go_num,HW.out.2,HK.out,HB.out.trans (H1.out.mono HB.out.size)⟩
          case measure=>have:=HW.out;simp[intOf];omega
    · obtain rfl:pos=s.size:=by omega
      rw[badFrom_end s _ hp]at hk;have E:=yH (show place s=s.size∧isText s=true by constructor<;>(first|unfold place|unfold isText)<;>rw[←hk]<;>rfl);clear hk hp hle;go_wp2_with fail
      go_ret2
      exact⟨by rw[E.out.1,E.out.2];rfl,HB.out⟩
def strLen:Value→Nat| .string b=>b.size|_=>0
def RelG (s:ByteArray) (w:World) (t v:Value) (wr:World):Prop:=
  ∃(u:ByteArray) (done:List Nat),t= .string u∧u.size≤s.size∧Below w.heap.size w wr∧RowL wr w.heap.size v done∧done++letters u=letters s
theorem new_cells (w:World) (r:Nat):∀(j:Nat) (u:Value),[Value.int .i32 (r:Int)][j]? =some u→(w.alloc (.cells #[.int .i32 (r:Int)] 21)).cell? ((⟨w.heap.size,0,none⟩:Addr).add j)=some u:=by
  intro j u hj
  match j,hj with
  |0,hj=>exact(World.cell?_alloc_mark _ #[.int .i32 (r:Int)] 21 (0,0) 0).trans hj
theorem relG_step {s u':ByteArray} {w:World} {r:Nat} {v v':Value} {w1 w':World} {done:List Nat} {c:Value} (hsz:u'.size≤s.size) (hb:Below w.heap.size w w1)
    (hrow:RowL w1 w.heap.size v done) (hl:done++r::letters u'=letters s)
    (hown:w'.ownsRow w.heap.size 21 1 v' (done.length+1) (rc done++ [.int .i32 (r:Int)])) (hg:(w1.alloc (.cells #[c] 21)).grownBy w' v.ownBlock):RelG s w (.string u') v' w':=by
  refine⟨u',done++ [r],rfl,hsz,?_,?_,by rw[List.append_assoc];exact hl⟩
  · have b2:=hb.alloc hb.size (.cells #[c] 21)
    refine b2.grown hg b2.size ?_;intro k e;exact(World.ownsRow.lt hrow k e).1
  · unfold RowL
    rw[rc_add,List.length_append,List.length_singleton];exact hown
set_option maxHeartbeats 1000000 in
set_option maxRecDepth 100000 in
theorem rrunes_any (s:ByteArray) (w:World) (hs:s.size≤1099511627776) (hT:Tabs w):
    Calls Tryz.prog 61 #[.string s] w fun e w'=> ∃v,e= .returned v∧RowL w' w.heap.size v (letters s)∧Below w.heap.size w w':=by
  have HT:=yH hT;have HS:=yH hs;have HL:=yH (letters_length s);clear hT hs;obtain⟨i0,hi,hz0,hz1,hz2⟩:=info_parts info32;go_enter Tryz.func61,Tryz.ntmps61;go_wp2_with fail
  go_loopw [0,3] (fun t v wr=>RelG s w t v wr) (fun t _ _=>strLen t)
  case atStart=>exact⟨s,[],rfl,Nat.le_refl _,Below.refl _ _,RowL.nil _ _,rfl⟩
  case round=>
    obtain⟨u,done,rfl,hsz,hb,hrow,hdone⟩:=hrel;have HTr:=yH (HT.out.below hb)
    by_cases hp:0<u.size
    · obtain⟨r,d,hd⟩:∃r d,Utf8.decode u 0=(r,d):=⟨_,_,rfl⟩
      have hc:=dec_any u wr hp HTr.out;have hwd:=width_pos u 0 hp;have hwl:=width_le u 0 hp;have hst:=letters_tail u hp;rw[hd]at hwd hwl hst hc;simp only[Nat.zero_add]at hwd hwl hst hc;rw[hst]at hdone;have HC:=yH hc;have HW:=yH (And.intro hwd hwl)
      have hlen:done.length+1≤1099511627776:=by
        have h1:=congrArg List.length hdone;rw[List.length_append,List.length_cons]at h1;have:=HL.out;have:=HS.out;omega
      have C3:=yH (show done.length+1≤maxLen by unfold maxLen;omega);have C4:=yH (show(done.length+1)*4≤140737488355328 by omega);have HD:=yH hdone;have HR:=yH hrow;have HB:=yH hb;have HP:=yH (show(u.extract d u.size).size≤s.size∧(u.extract d u.size).size<u.size by rw[Lib.tail_size];omega);have hpi:(0:Int)<u.size:=(by omega);have hdi:(d:Int)≤u.size:=(by omega);clear hd hst hwd hwl hdone hlen hp hrow hb hc hsz
      go_wp2_with (first
        |(go_at_call 81;refine HC.out.mono ?_;rintro e w1 ⟨rfl,hb1⟩;have HB1:=yH (HB.out.trans (hb1.mono HB.out.size));have HR1:=yH (HR.out.below hb1);have CO:=yH (World.ownsRow.alloc HR1.out (.cells #[.int .i32 (r:Int)] 21));have C5:=yH (show w.heap.size≤(w1.alloc (.cells #[.int .i32 (r:Int)] 21)).heap.size by rw[World.size_alloc];have:=HB1.out.size;omega);clear hb1)
        |(at_builtin;refine wpList_append_own _ rfl _ _ 109 rfl w.heap.size 21 i0 (.int .i32 0) 1 4 Tryz.underlying109 hi hz0 hz1 hz2 rfl (by decide) _ _ _ rfl CO.out ⟨w1.heap.size,0,none⟩ 1 1 [.int .i32 (r:Int)] rfl rfl (new_cells w1 r) (by intro u hu;simp at hu;subst hu;rfl) C3.out C4.out C5.out ?_;intro v' w3 hown3 hg3 _))
      refine⟨relG_step HP.out.1 HB1.out HR1.out HD.out hown3 hg3,?_⟩;exact HP.out.2
    · have hpi:¬(0:Int)<u.size:=by omega
      have h0:letters u= []:=(by rw[←rest_zero];exact rest_end u 0 hp);rw[h0,List.append_nil]at hdone;have HR:=yH (show RowL wr w.heap.size _ (letters s) by rw[←hdone];exact hrow);have HB:=yH hb;clear hdone hrow hb hsz hp;go_wp2_with fail;go_ret;exact⟨_,rfl,HR.out,HB.out⟩
theorem name_of_all (l:List Nat) (h0:0<l.length) (ha:l.all (fun (x:Nat)=>moreR x)=true):nameL l=(decide (l.length≤12)&&firstR l[0]):=by
  cases l with
  |nil=>simp at h0
  |cons a r=>simp only[nameL,ha,List.getElem_cons_zero];simp[Bool.and_comm]
theorem name_of_not (l:List Nat) (k:Nat) (hk:k<l.length) (h:moreR l[k]=false):nameL l=false:=by
  have:l.all (fun (x:Nat)=>moreR x)=false:=by
    rw[List.all_eq_false];exact⟨l[k],List.getElem_mem hk,by simp[h]⟩
  cases l with
  |nil=>simp at hk
  |cons a r=>simp only[nameL,this];simp
theorem all_take {l:List Nat} {k:Nat} (hk:k<l.length) (ha:(l.take k).all (fun (x:Nat)=>moreR x)=true) (h:moreR l[k]=true):(l.take (k+1)).all (fun (x:Nat)=>moreR x)=true:=by
  rw[List.take_succ_eq_append_getElem hk,List.all_append,ha];simp[h]
set_option maxHeartbeats 1000000 in
theorem rname_any (s:ByteArray) (w:World) (hs:s.size≤1099511627776) (hT:Tabs w):
    Calls Tryz.prog 29 #[.string s] w fun e w'=>e= .returned (.bool (nameL (letters s)))∧Below w.heap.size w w':=by
  have hc:=rrunes_any s w hs hT;have hll:=letters_length s
  generalize letters s=l at hc hll ⊢
  have HL:=yH (show l.length≤1099511627776 by omega);clear hT hs hll;go_enter Tryz.func29,Tryz.ntmps29;go_wp2_with fail;refine hc.mono ?_;rintro e w1 ⟨v,rfl,hrow,hb⟩;have HB:=yH hb;clear hb hc
  rcases hrow.is with ⟨rfl,rfl⟩|⟨g,c,rfl⟩
  · clear hrow
    go_wp2_with fail
    go_loop [4] (fun i=>i= .int .i64 0) (fun _=>0)
    case atStart=>rfl
    case round=>
      subst hrel;go_wp2_with fail;go_ret;exact⟨rfl,HB.out⟩
  · have HC:=yH (fun (j:Nat) (hj:j<l.length)=>hrow.cell j hj)
    clear hrow;obtain⟨n,hn⟩:∃n,l.length=n:=⟨_,rfl⟩;have HN:=yH hn;rw[hn];clear hn;go_wp2_with fail
    go_loop [4] (fun i=> ∃k:Nat,k≤n∧i= .int .i64 (k:Int)∧(l.take k).all (fun (x:Nat)=>moreR x)=true) (fun i=>n-(intOf i).toNat)
    case atStart=>exact⟨0,Nat.zero_le _,rfl,rfl⟩
    case round=>
      obtain⟨k,hk,rfl,ha⟩:=hrel;have HA:=yH ha;clear ha
      by_cases hlt:k<n
      · have hkl:k<l.length:=by rw[HN.out];exact hlt
        have hcell:=HC.out k hkl;obtain⟨M,hM⟩:∃M,moreR l[k]=M:=⟨_,rfl⟩;have HM:=yH (And.intro hkl (fun h:k<l.length=>(show moreR (l[k]:Nat)=M from hM)));obtain⟨x,hx⟩:∃x:Int,((l[k]:Nat):Int)=x:=⟨_,rfl⟩;rw[hx]at hcell hM;have HX:=yH hM;have h1:(k:Int)<n:=(by omega);have h2:(k:Int)+1≤9223372036854775807:=(by have:=HL.out;omega);have HK:=yH hlt;clear hx hM hkl hlt hk
        cases M
        all_goals
          go_wp2_with (go_at_call 62;refine(rmore_any _ _).mono ?_;rintro e w2 ⟨rfl,rfl⟩;rw[HX.out])
        · go_ret
          exact⟨ret_bool (name_of_not l k HM.out.1 (HM.out.2 HM.out.1)).symm,HB.out⟩
        · go_round
          case rel=>exact⟨k+1,by have:=HK.out;omega,by go_num,all_take HM.out.1 HA.out (HM.out.2 HM.out.1)⟩
          case measure=>have:=HK.out;simp[intOf];omega
      · obtain rfl:k=n:=by omega
        have ha:=HA.out;rw[List.take_of_length_le (by rw[HN.out];exact Nat.le_refl _)]at ha;clear hlt hk HA
        by_cases h0:0<k
        · have h0l:0<l.length:=by rw[HN.out];exact h0
          have E:=yH (name_of_all l h0l ha);have hcell:=HC.out 0 h0l;obtain⟨F,hF⟩:∃F,firstR (l[0]:Nat)=F:=⟨_,rfl⟩;have E2:=yH (show nameL l=(decide (k≤12)&&F) by rw[E.out,hF,HN.out]);obtain⟨x,hx⟩:∃x:Int,((l[0]:Nat):Int)=x:=⟨_,rfl⟩;rw[hx]at hcell hF;have HX:=yH hF;have h1:(0:Int)<k:=(by omega);clear hx hF h0l E ha h0
          by_cases h12:k≤12
          · have h2:(k:Int)≤12:=by omega
            have E3:=yH (show nameL l=F by rw[E2.out,decide_eq_true h12,Bool.true_and]);clear h12 E2
            go_wp2_with (go_at_call 63;refine(rfirst_any _ _).mono ?_;rintro e w2 ⟨rfl,rfl⟩;rw[HX.out])
            go_ret;exact⟨ret_bool (by rw[E3.out]),HB.out⟩
          · have h2:¬(k:Int)≤12:=by omega
            have E3:=yH (show nameL l=false by rw[E2.out,decide_eq_false h12,Bool.false_and]);clear h12 E2;go_wp2_with fail;go_ret;exact⟨ret_bool (by rw[E3.out]),HB.out⟩
        · obtain rfl:k=0:=by omega
          have hl0:l= []:=List.eq_nil_of_length_eq_zero HN.out;have E:=yH (show nameL l=false by rw[hl0];rfl);clear ha h0 hl0;go_wp2_with fail;go_ret;exact⟨ret_bool (by rw[E.out]),HB.out⟩
end Go.Proofs.YtakceggnadagmaaGreatDoor
namespace Go.Proofs.YtakceggnadagmaaGreatDoor
open Go Go.RowKit GlyphMath LexMath
theorem conv_u8 (b:Nat) (hb:b<256):IntKind.i32.wrap (b:Int)=(b:Int):=by
  rw[IntKind.wrap_i32];omega
def reckonN (b:Nat):Bool:=moreR b||(b==32||b==9||b==43||b==45||b==42||b==47||b==37||b==60||b==62||b==61||b==33)
theorem rreckon_any (b:Nat) (hb:b<256) (w:World):
    Calls Tryz.prog 133 #[.int .u8 (b:Int)] w fun e w'=>e= .returned (.bool (reckonN b))∧w=w':=by
  have hc:=conv_u8 b hb
  have hu:reckonN b=(moreR (b:Int)||((b:Int)==32||(b:Int)==9||(b:Int)==43||(b:Int)==45||(b:Int)==42||(b:Int)==47||(b:Int)==37||(b:Int)==60||(b:Int)==62||(b:Int)==61||(b:Int)==33)):=by
    unfold reckonN
    cases moreR (b:Int)
    · refine bool_iff ?_
      simp;omega
    · rfl
  rw[hu];clear hu;obtain⟨M,hM⟩:∃M,moreR (b:Int)=M:=⟨_,rfl⟩;rw[hM];have HM:=yH hM;clear hM hb
  cases M
  all_goals
    go_enter Tryz.func133,Tryz.ntmps133
    go_wp2_with (go_at_call 62;refine(rmore_any (b:Int) _).mono ?_;rintro e w1 ⟨rfl,rfl⟩;(try rw[HM.out]))
  all_goals
    go_ret;refine⟨ret_bool (bool_iff ?_),rfl⟩
    first|(simp;done)|(simp;omega)|(simp_all;done)
def metaN (b:Nat):Bool:=ends b false||begins b
theorem rmeta_any (b:Nat) (w:World):
    Calls Tryz.prog 88 #[.int .u8 (b:Int)] w fun e w'=>e= .returned (.bool (metaN b))∧w=w':=by
  have hu:metaN b=((b:Int)==32||(b:Int)==9||(b:Int)==10||(b:Int)==59||(b:Int)==38||(b:Int)==124||(b:Int)==40||(b:Int)==41||(b:Int)==60||(b:Int)==62||(b:Int)==39||(b:Int)==34||(b:Int)==36||(b:Int)==92):=by
    unfold metaN ends begins acts blankR;refine bool_iff ?_;simp;omega
  rw[hu];clear hu;go_enter Tryz.func88,Tryz.ntmps88;go_wp2_with fail
  all_goals
    go_ret;refine⟨ret_bool (bool_iff ?_),rfl⟩
    first|(simp;done)|(simp;omega)|(simp_all;done)
end Go.Proofs.YtakceggnadagmaaGreatDoor
