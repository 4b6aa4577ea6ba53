/-
  Proved: contracts of functions, plain facts. Conditions: as each says.
-/
import Derived.Test.YtcpmjkefbjbhpaaGreatDoorSw48
import Derived.Test.YtcpmjkefbjbhpaaGreatDoorSw46
import Derived.Test.YtcpmjkefbjbhpaaGreatDoorSw49
namespace Go.Proofs.YtcpmjkefbjbhpaaGreatDoor
open Go Go.RowKit GlyphMath LexMath TreeMath ParseMath
theorem qtok_any (s:ByteArray) (w:World) (hT:Tabs w):Calls Tryz.prog 20 #[.string s] w fun e w'=>TkEnd w w' e s:=by
  by_cases h1:2000<s.size
  · refine(rtokens_long s w h1).mono fun e w' ⟨he,hb⟩=> ?_
    unfold TkEnd tokB;rw[if_pos h1];exact⟨.inr rfl,he,hb⟩
  · cases h2:isText s with
    |false=>
      refine(rtokens_bad s w (by omega) h2 hT).mono fun e w' ⟨he,hb⟩=> ?_;unfold TkEnd tokB;rw[if_neg h1,if_pos h2];exact⟨.inl rfl,he,hb⟩
    |true=>
      obtain⟨hg1,hg2⟩:=text_good h2;refine(rtokens_in s w (by omega) h2 hT).mono fun e w' he=> ?_;unfold TkEnd tokB;rw[if_neg h1,if_neg (by rw[h2];decide)]
      cases hm:tokensL s.size ((letters s).length+1) (letters s) []with
      |error x=>
        obtain⟨n,c⟩:=x;rw[hm]at he;exact he
      |ok ts=>
        rw[hm]at he;obtain⟨v,X,us,F,he,ho,hb⟩:=he;have hgood:=tokens_good (by omega) hg2 (by have:=letters_length s;omega) hm;have hpos:=hgood.pos;obtain⟨p,c,hv,hat⟩:=ho.at
        rcases ho.own.2 with ⟨_,h0⟩|⟨g,cap,cur,hv2,_,_,hle,_⟩
        · exact absurd hpos (by dsimp only;omega)
        · rw[hv]at hv2
          simp only[Value.slice.injEq,true_and]at hv2;obtain⟨rfl,rfl⟩:=hv2;subst hv
          exact⟨g,c,he,hle,fun k t hk=>by
            obtain⟨u,_,a1,a2⟩:=hat k t hk
            exact⟨u,a1.ps,a2,a1.cap⟩,hgood,hb⟩
theorem Rr.atc {w0 w:World} {X:Nat} {S:PS} (h:Rr w0 w X S) (he:S.err≠0):w.cell? ⟨X,3,none⟩=some (.int .i64 (S.at_:Int)):=by
  obtain⟨L,G,c,i,e,a,h,rfl⟩:=h;rw[cell_plain h.head];unfold stR at*
  split at he
  · exact absurd rfl he
  · rename_i h0
    rw[if_neg h0];rfl
structure QaO (w w2 wx:World) (X L:Nat) (c:List Value) (S:PS) (t:Tr):Prop where
  z:wx.heap[w.heap.size]? =some (.cells PZ 24 (0,0))
  below:Below w.heap.size w wx
  rr:Rr w2 wx X S
  ne:w.heap.size<X
  box:wx.heap[L]? =some (.cells c.toArray 74 (0,0))
  cel:Cel 8 c
  tree:TrC wx c t
theorem QaO.make {w w2 w3 w4:World} {c:List Value} {S:PS} {t:Tr} {o:Obj} (hz:w2.heap[w.heap.size]? =some (.cells PZ 24 (0,0))) (hb:Below w.heap.size w w2) (hw3:w3=w2.alloc o) (hcel:Cel 8 c) (hnew:NewAt w2 w4 w3.heap.size fun W=>TrC W c t) (hs:QStep w2 w3 w4 w2.heap.size S):
    QaO w w2 (w4.alloc (.cells c.toArray 74)) w2.heap.size w4.heap.size c S t:=by
  have hl:=(gS.1 hz).1;have h3:Below w2.heap.size w2 w3:=(by rw[hw3];exact below_new _ _);have h4:=(hs.2.block w.heap.size (Nat.lt_of_lt_of_le hl h3.size) (fun e=>by omega)).trans ((h3.block _ hl).trans hz);have hb3:Below w.heap.size w w3:=hb.trans (h3.mono hb.size);have hb4:Below w.heap.size w w4:=below_kept hb3 hs.2 (fun i e=>by have:=hb.size;omega) hb3.size;have hn:=below_new w4 (.cells c.toArray 74);have hs4:w.heap.size<w4.heap.size:=(gS.1 h4).1;exact⟨(hn.block _ hs4).trans h4,hb4.trans (hn.mono hb4.size),hs.1.new hn,hl,heap_alloc_new w4 _,hcel,(hnew.now hs.1.below).later hn⟩
structure QaF (w wx:World) (X:Nat) (S:PS):Prop where
  z:wx.heap[w.heap.size]? =some (.cells PZ 24 (0,0))
  below:Below w.heap.size w wx
  ne:w.heap.size<X
  x2:wx.cell? ⟨X,2,none⟩=some (.int .i64 (S.err:Int))
  x3:wx.cell? ⟨X,3,none⟩=some (.int .i64 (S.at_:Int))
theorem QaO.err {w w2 wx:World} {X L:Nat} {c:List Value} {S:PS} {t:Tr} (h:QaO w w2 wx X L c S t) (he:S.err≠0):QaF w wx X S:=⟨h.z,h.below,h.ne,h.rr.errc,h.rr.atc he⟩
theorem QaO.failed {w w2 wx w6 w7:World} {X L:Nat} {c:List Value} {S S2:PS} {t:Tr} (h:QaO w w2 wx X L c S t) (hb:Below wx.heap.size wx w6) (hs:QStep w2 w6 w7 X S2) (he:S2.err≠0):QaF w w7 X S2:=by
  have hl:=(gS.1 h.z).1;have hne:=h.ne;have hb6:=h.below.trans (hb.mono h.below.size);exact⟨hs.2.heap ((hb.block _ hl).trans h.z) (by omega),below_kept hb6 hs.2 (fun i e=>by omega) hb6.size,hne,hs.1.errc,hs.1.atc he⟩
theorem script_end {S:PS} {r:Tr×PS} {S':PS} (hr:listM (lv 20).cmd S=r) (hg:GoodS S') (hrel:RelL r.2 S') (hd:S'.err≠0→Dead S'):
    (scriptM S).1=r.1∧(scriptM S).2=(if S'.err=0∧S'.hd.kind≠3 then S'.fail 2 else S')∧((scriptM S).2.err=0→r.2.err=0):=by
  have h1:scriptM S=(r.1,r.2.want (r.2.hd.kind==3)):=(by unfold scriptM;rw[hr]);rw[h1];refine⟨rfl,?_,fun h=>want_alive h⟩;show r.2.want (r.2.hd.kind==3)=_
  rcases hrel with e|⟨e1,e2,e3⟩
  · rw[←e]
    by_cases he:S'.err=0
    · by_cases hk:S'.hd.kind=3
      · rw[if_neg (fun h=>h.2 hk),hk];rfl
      · rw[if_pos ⟨he,hk⟩]
        have:(S'.hd.kind==3)=false:=(by simpa using hk);rw[this];rfl
    · rw[if_neg (fun h=>he h.1),Dead.kind hg (hd he)];rfl
  · have hk:S'.hd.kind≠3:=fun hk=>by
      rcases hg.hd with ⟨e, -⟩|⟨e, -⟩
      · unfold PS.is PS.tx textK at e2
        rw[if_neg (by rw[hk];decide),e.text]at e2;exact absurd e2 (by decide)
      · exact e.ne hk
    rw[if_pos ⟨e1,hk⟩,e3,Dead.kind (to_fail hg (by decide)).good (fail_one hg 2)];rfl
theorem QaO.new {w w2 wx w6:World} {X L:Nat} {c:List Value} {S:PS} {t:Tr} (h:QaO w w2 wx X L c S t) (hb:Below wx.heap.size wx w6):QaO w w2 w6 X L c S t:=
  ⟨(hb.block _ (gS.1 h.z).1).trans h.z,h.below.trans (hb.mono h.below.size),h.rr.new hb,h.ne,(hb.block _ (gS.1 h.box).1).trans h.box,h.cel,h.tree.later hb⟩
theorem qfin_ns {w5 w6:World} {z:Nat} {v:Value} {css:List (List Value)} {ns:List Nd} {t:TypeId} (hz:w6.heap[z]? =some (.cells PZ t (0,0))) (hl:LaidR w5 w6 v css ns) (hf:fullNs ns=true) (a:Value):NsAt ((w6.setCell ⟨z,0,none⟩ a).setCell ⟨z,1,none⟩ (.int .i64 0)) v ns:=
  ns_turn hz (fun k hk=>by rw[Below.heap_setCell _ _ _ _ (by exact hk),Below.heap_setCell _ _ _ _ (by exact hk)])
    (cell_plain (heap_setCell_same _ _ 1 _ _ (.int .i64 0) (heap_setCell_same _ _ 0 _ _ a hz)) 1) hl.ns hf
def PmEnd (w w':World) (e:Ending) (s:ByteArray) (pm:Except (Nat×Nat) (List Nd)):Prop:=match pm with
  | .ok ns=> ∃v,e= .returned (.tuple #[.agg #[v,.int .i64 0],.int .i64 (s.size:Int),.int .i64 0])∧(∃p c,v= .slice p ns.length c)∧(fullNs ns=true→NsAt w' v ns)∧Below w.heap.size w w'
  | .error (n,c)=>c≠0∧e= .returned (.tuple #[.agg PZ,.int .i64 (n:Int),.int .i64 (c:Int)])∧Below w.heap.size w w'
set_option maxHeartbeats 8000000 in
set_option maxRecDepth 10000 in
theorem qparse_ok (s:ByteArray) (w:World) (hT:Tabs (w.alloc (.cells PZ 24))) {ts:List Tk} (hm:tokB s= .ok ts) (hli:∀w2,Tabs w2→∀(W:World) (X:Nat),Rr w2 W X ⟨ts,0,0⟩→Calls Tryz.prog 28 #[.pointer (some ⟨X,0,none⟩),.int .i64 0] W fun e w'=> ∃t S',TrAt w2 W w' e X t S'∧RelL (listM (lv 20).cmd ⟨ts,0,0⟩).2 S'∧((listM (lv 20).cmd ⟨ts,0,0⟩).2.err=0→t=(listM (lv 20).cmd ⟨ts,0,0⟩).1)):Calls Tryz.prog 12 #[.string s] w fun e w'=>PaEnd w w' e s:=by
  have HTA:=yH hT;have HLI:=yH hli
  have HT:=yH (show Calls _ _ _ _ (fun e w'=> ∃G c,e= .returned (.tuple #[.slice (some ⟨G,0,none⟩) ts.length c,.int .i64 (s.size:Int),.int .i64 0])∧ts.length≤c∧ToksAt w' G 0 ts∧GoodS ⟨ts,0,0⟩∧Below (w.alloc (.cells PZ 24)).heap.size (w.alloc (.cells PZ 24)) w')from by
    have:=qtok_any s _ hT;unfold TkEnd at this;rw[hm]at this
    exact this)
  have HB:=yH (below_new w)
  have HP:=yH (show ∀e w',PmEnd w w' e s (parseM ts)→PaEnd w w' e s from fun e w' h=>by
    unfold PaEnd parseB;rw[hm]
    exact h)
  refine Calls.mono ?_ HP.out;clear hm hT HP hli;have HM:=yH (show parseM ts=if (scriptM ⟨ts,0,0⟩).2.err≠0 then .error ((scriptM ⟨ts,0,0⟩).2.at_,(scriptM ⟨ts,0,0⟩).2.err)else if 200<(laidM (scriptM ⟨ts,0,0⟩).1 []).length then .error (0,3)else .ok (laidM (scriptM ⟨ts,0,0⟩).1 [])from rfl);obtain⟨pm,hpm⟩:∃pm,parseM ts=pm:=⟨_,rfl⟩;rw[hpm]at HM;rw[hpm];clear hpm;obtain⟨lr,hlr⟩:∃lr,listM (lv 20).cmd ⟨ts,0,0⟩=lr:=⟨_,rfl⟩;have HLR:=yH hlr;obtain⟨N,hN⟩:∃N,ts.length=N:=⟨_,rfl⟩;have HN:=yH hN;rw[hN]at HT;clear hN hlr;go_enter Tryz.func12,Tryz.ntmps12
  go_upto_region 6 with (first
    |(go_at_call 20;refine HT.out.mono ?_;rintro en w2 ⟨G,c,rfl,hle,htk,hgood,hb⟩;have HT2:=yH (HTA.out.below hb);have HZ:=yH ((hb.block w.heap.size (by simp)).trans (heap_alloc_new w _));have HBB:=yH ((HB.out _).trans (hb.mono (HB.out _).size));have HTK:=yH (And.intro hle (And.intro htk hgood));clear hle htk hgood hb)
    |(go_at_call 28;obtain⟨w3,hw3⟩:∃w3,w3=w2.alloc (.cells #[.slice (some ⟨G,0,none⟩) N c,.int .i64 0,.int .i64 0,.int .i64 0] 71):=⟨_,rfl⟩;have HPR:=yH (show Rr w2 w3 w2.heap.size ⟨ts,0,0⟩from ⟨ts,G,c,0,0,0,⟨(by rw[hw3];exact below_new _ _),Nat.le_refl _,(by rw[hw3,←HN.out];exact heap_alloc_new w2 _),HTK.out.2.2.pos,HTK.out.2.1,HTK.out.2.2,by decide⟩,rfl⟩);have HW3:=yH hw3;rw[←hw3];clear hw3;refine(HLI.out _ HT2.out _ _ HPR.out).mono ?_;rintro en w4 ⟨t,S',⟨cs,rfl,hcel,hnew,hs⟩,hrel,hal⟩;rw[HLR.out]at hrel hal;have HPA:=yH (QaO.make HZ.out HBB.out HW3.out hcel hnew hs);have HCS:=yH hcel;have HREL:=yH (And.intro hrel hal);clear hcel hnew hs hrel hal)
    |(refine wpList_store_row (by rfl) 74 (.tmp 9) (.tmp 26) (by rfl) w4.heap.size cs.toArray (by rfl) (by rfl) 74 zeroN.toArray (heap_alloc_new w4 _) (by rw[rtree_info];simp[HCS.out.1]) (by simp[HCS.out.1,zeroN,ofC]) (all_oneCell_toArray HCS.out.2) ?_;rw[World.setRow_alloc_new];obtain⟨w5,hw5⟩:∃w5,w4.alloc (.cells cs.toArray 74)=w5:=⟨_,rfl⟩;have hpa:=HPA.out;rw[hw5]at hpa ⊢;clear hw5;have HP5:=yH hpa;clear hpa))
  have hse:=script_end HLR.out HP5.out.rr.good HREL.out.1 fun he=>HP5.out.rr.dead he;have x2:=HP5.out.rr.errc
  by_cases he:S'.err=0
  case neg=>
      have HM2:=yH (show pm= .error (S'.at_,S'.err)from by
        have h2:(scriptM ⟨ts,0,0⟩).2=S':=by rw[hse.2.1,if_neg (fun h=>he h.1)]
        rw[HM.out,h2,if_pos he])
      have HQF:=yH (HP5.out.err he);have x3:=HQF.out.x3;have HE:=yH he;obtain⟨ee,hee⟩:∃ee:Int,(S'.err:Int)=ee:=⟨_,rfl⟩;obtain⟨aa,haa⟩:∃aa:Int,(S'.at_:Int)=aa:=⟨_,rfl⟩;have HEE:=yH hee;have HAA:=yH haa;have he0:((S'.err:Int) !=0)=true:=(by have:¬(S'.err:Int)=0:=(by omega);simpa using this);have he1:((S'.err:Int)==0)=false:=(by have:¬(S'.err:Int)=0:=(by omega);simpa using this);rw[hee]at he0 he1 x2;rw[haa]at x3;clear hse he hee haa;go_wp2_with fail;have z0:w5.cell? ⟨w.heap.size,0,none⟩=some (.slice none 0 0):=cell_plain HQF.out.z 0;have z1:w5.cell? ⟨w.heap.size,1,none⟩=some (.int .i64 0):=cell_plain HQF.out.z 1;have g0:=frozen_plain HQF.out.z 0;have g1:=frozen_plain HQF.out.z 1;have hne:w2.heap.size≠w.heap.size:=fun e=>(by have:=HQF.out.ne;omega);have far:∀(W:World) (i j:Nat) (u:Value),(W.setCell ⟨w.heap.size,i,none⟩ u).cell? ⟨w2.heap.size,j,none⟩=W.cell? ⟨w2.heap.size,j,none⟩:=fun W i j u=>World.cell?_of_block (Below.heap_setCell W ⟨w.heap.size,i,none⟩ u w2.heap.size hne);have y1:((w5.setCell ⟨w.heap.size,0,none⟩ (.slice none 0 0)).setCell ⟨w.heap.size,1,none⟩ (.int .i64 0)).cell? ⟨w2.heap.size,3,none⟩=some (.int .i64 aa):=(by rw[far,far];exact x3);have y2:((w5.setCell ⟨w.heap.size,0,none⟩ (.slice none 0 0)).setCell ⟨w.heap.size,1,none⟩ (.int .i64 0)).cell? ⟨w2.heap.size,2,none⟩=some (.int .i64 ee):=(by rw[far,far];exact x2)
      go_region
      (try simp only[Exit.then])
      go_wp2_with fail
      (try simp only[Exit.inBlock,Exit.then])
      refine bodyPost_ret (ret_prog (cs:=PZ) rfl (heap_setCell_same _ _ 1 _ _ (.int .i64 0) (heap_setCell_same _ _ 0 _ _ (.slice none 0 0) HQF.out.z)) rfl rfl rfl rfl) rfl ?_;rw[HM2.out];unfold PmEnd;exact⟨HE.out,by rw[HEE.out,HAA.out];rfl,below_drewW ((HQF.out.below.setCell (p:=⟨w.heap.size,0,none⟩) (Nat.le_refl _) _).setCell (p:=⟨w.heap.size,1,none⟩) (Nat.le_refl _) _)⟩
  case pos=>
    rw[he]at x2;have x2:w5.cell? ⟨w2.heap.size,2,none⟩=some (.int .i64 0):=x2
    by_cases hk:S'.hd.kind=3
    case neg=>
      obtain⟨S2,hS2⟩:∃S2,S'.fail 2=S2:=⟨_,rfl⟩;have hne2:S2.err≠0:=(by rw[←hS2];exact fail_ne S' (by decide))
      have HM2:=yH (show pm= .error (S2.at_,S2.err)from by
        have h2:(scriptM ⟨ts,0,0⟩).2=S2:=by rw[hse.2.1,if_pos ⟨he,hk⟩,hS2]
        rw[HM.out,h2,if_pos hne2])
      have HE:=yH hne2;have HS2:=yH hS2;have HNW:=yH (fun W (hW:Rr w2 W w2.heap.size S')=>qnow_any hW);unfold tkN at HNW;obtain⟨kd,hkd⟩:∃x,S'.hd.kind=x:=⟨_,rfl⟩;obtain⟨tx,htx⟩:∃x,T S'.hd.text=x:=⟨_,rfl⟩;obtain⟨wl,hwl⟩:∃x,S'.hd.word.length=x:=⟨_,rfl⟩;simp only[hkd,htx,hwl]at HNW;obtain⟨ee,hee⟩:∃ee:Int,(S2.err:Int)=ee:=⟨_,rfl⟩;obtain⟨aa,haa⟩:∃aa:Int,(S2.at_:Int)=aa:=⟨_,rfl⟩;have HEE:=yH hee;have HAA:=yH haa;have he0:((S2.err:Int) !=0)=true:=(by have:¬(S2.err:Int)=0:=(by omega);simpa using this);rw[hkd]at hk;have hk1:(kd !=3)=true:=(by simpa using hk);rw[hee]at he0;clear hse he hk hkd htx hwl hee haa hS2 hne2
      go_wp2_with (first
        |(go_at_call 29;refine(HNW.out _ HP5.out.rr).mono ?_;rintro en w6 ⟨p6,k6,a6,rfl, -,hb6⟩;have qf6:=tok_f0 kd a6 tx p6 wl k6;have HB6:=yH hb6;clear hb6)
        |(go_at_call 30;refine(qfail_any (HP5.out.rr.new HB6.out) 2 (by decide) (by decide)).mono ?_;rintro en w7 ⟨rfl,hs⟩;rw[HS2.out]at hs;have hqf:=HP5.out.failed HB6.out hs HE.out;have HQF:=yH hqf;have x3:=hqf.x3;have x4:=hqf.x2;rw[HEE.out]at x4;rw[HAA.out]at x3;clear hs hqf))
      have x2:=x4;have z0:w7.cell? ⟨w.heap.size,0,none⟩=some (.slice none 0 0):=cell_plain HQF.out.z 0;have z1:w7.cell? ⟨w.heap.size,1,none⟩=some (.int .i64 0):=cell_plain HQF.out.z 1;have g0:=frozen_plain HQF.out.z 0;have g1:=frozen_plain HQF.out.z 1;have hne:w2.heap.size≠w.heap.size:=fun e=>(by have:=HQF.out.ne;omega);have far:∀(W:World) (i j:Nat) (u:Value),(W.setCell ⟨w.heap.size,i,none⟩ u).cell? ⟨w2.heap.size,j,none⟩=W.cell? ⟨w2.heap.size,j,none⟩:=fun W i j u=>World.cell?_of_block (Below.heap_setCell W ⟨w.heap.size,i,none⟩ u w2.heap.size hne);have y1:((w7.setCell ⟨w.heap.size,0,none⟩ (.slice none 0 0)).setCell ⟨w.heap.size,1,none⟩ (.int .i64 0)).cell? ⟨w2.heap.size,3,none⟩=some (.int .i64 aa):=(by rw[far,far];exact x3);have y2:((w7.setCell ⟨w.heap.size,0,none⟩ (.slice none 0 0)).setCell ⟨w.heap.size,1,none⟩ (.int .i64 0)).cell? ⟨w2.heap.size,2,none⟩=some (.int .i64 ee):=(by rw[far,far];exact x2)
      go_region
      (try simp only[Exit.then])
      go_wp2_with fail
      (try simp only[Exit.inBlock,Exit.then])
      refine bodyPost_ret (ret_prog (cs:=PZ) rfl (heap_setCell_same _ _ 1 _ _ (.int .i64 0) (heap_setCell_same _ _ 0 _ _ (.slice none 0 0) HQF.out.z)) rfl rfl rfl rfl) rfl ?_;rw[HM2.out];unfold PmEnd;exact⟨HE.out,by rw[HEE.out,HAA.out];rfl,below_drewW ((HQF.out.below.setCell (p:=⟨w.heap.size,0,none⟩) (Nat.le_refl _) _).setCell (p:=⟨w.heap.size,1,none⟩) (Nat.le_refl _) _)⟩
    case pos=>
      have HSE:=yH he;have hS:(scriptM ⟨ts,0,0⟩).2=S':=(by rw[hse.2.1,if_neg (fun h=>h.2 hk)]);have ht:t=(scriptM ⟨ts,0,0⟩).1:=(by rw[hse.1];exact HREL.out.2 (hse.2.2 (by rw[hS];exact he)));obtain⟨r,hr⟩:∃r,scriptM ⟨ts,0,0⟩=r:=⟨_,rfl⟩;have HSZ:=yH (good_size HTK.out.2.2 hr);rw[hr]at hS ht HM;subst ht;obtain⟨ns,hns⟩:∃ns,laidM r.1 []=ns:=⟨_,rfl⟩;rw[hns]at HM;have HNS:=yH hns;have HMA:=yH (show pm=if 200<ns.length then .error (0,3)else .ok ns from by rw[HM.out,if_neg (by rw[hS];exact fun h=>h he)]);obtain⟨K,hK⟩:∃K,ns.length=K:=⟨_,rfl⟩;rw[hK]at HMA;have HK:=yH hK;have HNW:=yH (fun W (hW:Rr w2 W w2.heap.size S')=>qnow_any hW);unfold tkN at HNW;obtain⟨kd,hkd⟩:∃x,S'.hd.kind=x:=⟨_,rfl⟩;obtain⟨tx,htx⟩:∃x,T S'.hd.text=x:=⟨_,rfl⟩;obtain⟨wl,hwl⟩:∃x,S'.hd.word.length=x:=⟨_,rfl⟩;simp only[hkd,htx,hwl]at HNW;obtain rfl:3=kd:=(by rw[←hkd,hk])
      by_cases h200:200<K
      · have h2:(200:Int)<(K:Int):=by omega
        have HM2:=yH (show pm= .error (0,3)from by rw[HMA.out,if_pos h200]);clear hse he hk hkd htx hwl hS hr hns hK h200 HMA HM
        go_wp2_with (first
          |(go_at_call 29;refine(HNW.out _ HP5.out.rr).mono ?_;rintro en w6 ⟨p6,k6,a6,rfl, -,hb6⟩;have qf6:=tok_f0 3 a6 tx p6 wl k6;have HB6:=yH hb6;have x6:w6.cell? ⟨w2.heap.size,2,none⟩=some (.int .i64 0):=(by have:=(HP5.out.new hb6).rr.errc;rw[HSE.out]at this;exact this);clear hb6)
          |(refine wpList_load_row (by rfl) 74 (.tmp 9) (by rfl) w4.heap.size (by rfl) 74 cs.toArray (0,0) _ (HP5.out.new HB6.out).box Tryz.underlying74 rfl (by rw[rtree_info];simp[HCS.out.1]) ?_)
          |(go_at_call 31;have HP6:=yH (HP5.out.new HB6.out);refine(qput_any _ r.1 (Nat.le_refl _) w6 w6 cs (.slice none 0 0) [] [] HP6.out.tree (LaidR.nil w6) HSZ.out).mono ?_;rintro en w7 ⟨v7,css7,rfl,hl7, -⟩;rw[HNS.out]at hl7;obtain⟨p7,c7,hv7⟩:=hl7.row.shape;subst hv7;rw[HK.out]at hl7 ⊢;have HL7:=yH hl7;have HZ7:=yH ((hl7.below.block _ (gS.1 HP6.out.z).1).trans HP6.out.z);have z0:w7.cell? ⟨w.heap.size,0,none⟩=some (.slice none 0 0):=cell_plain HZ7.out 0;have g0:=frozen_plain HZ7.out 0;have z1:w7.cell? ⟨w.heap.size,1,none⟩=some (.int .i64 0):=cell_plain HZ7.out 1;have g1:=frozen_plain HZ7.out 1;clear hl7))
        (try simp only[Exit.inBlock,Exit.then])
        refine bodyPost_ret (ret_prog (cs:= #[.slice none 0 0,.int .i64 0]) rfl (heap_setCell_same _ _ 1 _ _ (.int .i64 0) (heap_setCell_same _ _ 0 _ _ (.slice none 0 0) HZ7.out)) rfl rfl rfl rfl) rfl ?_;rw[HM2.out];unfold PmEnd;exact⟨by decide,rfl,((HP6.out.below.trans (HL7.out.below.mono HP6.out.below.size)).setCell (p:=⟨w.heap.size,0,none⟩) (Nat.le_refl _) _).setCell (p:=⟨w.heap.size,1,none⟩) (Nat.le_refl _) _⟩
      · have h2:¬(200:Int)<(K:Int):=by omega
        have HM2:=yH (show pm= .ok ns from by rw[HMA.out,if_neg h200]);clear hse he hk hkd htx hwl hS hr hns hK h200 HMA HM
        go_wp2_with (first
          |(go_at_call 29;refine(HNW.out _ HP5.out.rr).mono ?_;rintro en w6 ⟨p6,k6,a6,rfl, -,hb6⟩;have qf6:=tok_f0 3 a6 tx p6 wl k6;have HB6:=yH hb6;have x6:w6.cell? ⟨w2.heap.size,2,none⟩=some (.int .i64 0):=(by have:=(HP5.out.new hb6).rr.errc;rw[HSE.out]at this;exact this);clear hb6)
          |(refine wpList_load_row (by rfl) 74 (.tmp 9) (by rfl) w4.heap.size (by rfl) 74 cs.toArray (0,0) _ (HP5.out.new HB6.out).box Tryz.underlying74 rfl (by rw[rtree_info];simp[HCS.out.1]) ?_)
          |(go_at_call 31;have HP6:=yH (HP5.out.new HB6.out);refine(qput_any _ r.1 (Nat.le_refl _) w6 w6 cs (.slice none 0 0) [] [] HP6.out.tree (LaidR.nil w6) HSZ.out).mono ?_;rintro en w7 ⟨v7,css7,rfl,hl7, -⟩;rw[HNS.out]at hl7;obtain⟨p7,c7,hv7⟩:=hl7.row.shape;subst hv7;rw[HK.out]at hl7 ⊢;have HL7:=yH hl7;have HZ7:=yH ((hl7.below.block _ (gS.1 HP6.out.z).1).trans HP6.out.z);have z0:w7.cell? ⟨w.heap.size,0,none⟩=some (.slice none 0 0):=cell_plain HZ7.out 0;have g0:=frozen_plain HZ7.out 0;have z1:w7.cell? ⟨w.heap.size,1,none⟩=some (.int .i64 0):=cell_plain HZ7.out 1;have g1:=frozen_plain HZ7.out 1;clear hl7))
        (try simp only[Exit.inBlock,Exit.then])
        refine bodyPost_ret (ret_prog (cs:= #[.slice p7 K c7,.int .i64 0]) rfl (heap_setCell_same _ _ 1 _ _ (.int .i64 0) (heap_setCell_same _ _ 0 _ _ (.slice p7 K c7) HZ7.out)) rfl rfl rfl rfl) rfl ?_;rw[HM2.out];unfold PmEnd;exact⟨_,rfl,⟨p7,c7,by rw[HK.out]⟩,fun hf=>qfin_ns HZ7.out HL7.out hf _,((HP6.out.below.trans (HL7.out.below.mono HP6.out.below.size)).setCell (p:=⟨w.heap.size,0,none⟩) (Nat.le_refl _) _).setCell (p:=⟨w.heap.size,1,none⟩) (Nat.le_refl _) _⟩
end Go.Proofs.YtcpmjkefbjbhpaaGreatDoor
