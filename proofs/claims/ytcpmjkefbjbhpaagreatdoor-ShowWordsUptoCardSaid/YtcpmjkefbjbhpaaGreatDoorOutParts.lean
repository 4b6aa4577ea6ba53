/-
  Proved: contracts of the program's writer: a Var, a part, parts. Conditions: the writer lies in memory, the parts are as a word's, what is written is short enough.
-/
import Derived.Test.YtcpmjkefbjbhpaaGreatDoorSw48
namespace Go.Proofs.YtcpmjkefbjbhpaaGreatDoor
open Go Go.RowKit GlyphMath LexMath TreeMath ShowMath
theorem wput_at (B b:Nat) (nv:Value) (l:List UInt8) (ss:List (List UInt8)) (hl:l.length+ss.flatten.length≤BigW) (hn:ss.length≤10) (w:World) (n:Nat) (h0:n=w.heap.size) (h:Wr w B b nv l) (hB:B≤w.heap.size):
    Calls Tryz.prog 74 #[.pointer (some ⟨b,0,none⟩),.slice (some ⟨n,0,none⟩) ss.length ss.length] (w.alloc (.cells (ss.map txt).toArray 9)) fun e w'=>e= .returned (.tuple #[])∧Wr w' B b nv (l++ss.flatten)∧Ws B b w w':=by
  subst h0;exact wput_new B b nv l ss w h hl hn hB
theorem wis_text (l m:List UInt8):((T l).toList==m)=(l==m):=by rw[Lib.toList_data]
def ORow (w0:World) (b:Nat) (nv:Value) (k:Nat):Prop:=∀(ps:List Pt) (v:Value) (w:World) (l:List UInt8),PsAt w0 v ps→RowOk k ps→Below w0.heap.size w0 w→Wr w w0.heap.size b nv l→l.length+(rowS k ps).length≤BigW→
  Puts 38 #[v] w0.heap.size b nv l (rowS k ps) w
theorem cells_kept {B b X:Nat} {w w':World} {cs:Array Value} {t:TypeId} (h:w.heap[X]? =some (.cells cs t (0,0))) (hs:Ws B b w w') (hX:X≠b) (ht:t≠5):w'.heap[X]? =some (.cells cs t (0,0)):=
  hs.keeps h hX fun _ _ e=>by injection e with _ e _;exact ht e
set_option maxHeartbeats 2000000 in
set_option maxRecDepth 100000 in
theorem wvar_any {w0:World} {b k:Nat} {nv:Value} (hR:ORow w0 b nv k) (p:Pt) (u:Value) (w:World) (l:List UInt8) (hu:PsAt w0 u p.word) (hk:p.kind=2) (hp:RowOk k p.word) (hb:Below w0.heap.size w0 w) (hw:Wr w w0.heap.size b nv l) (hl:l.length+(bareS (rowS k) p).length≤BigW):
    Puts 125 #[partV p u] w0.heap.size b nv l (bareS (rowS k) p) w:=by
  obtain⟨kd,tx,op,wd,q⟩:=p;obtain rfl:kd=2:=hk;obtain⟨up,uc,rfl, -, -⟩:=hu.is;have hlt:=hw.lt;have hX:w.heap.size≠b:=(by omega);have H0:=yH (And.intro hw (And.intro hb hX));have hB:=hb.size;unfold Puts;show Calls Tryz.prog 125 #[.pointer (some ⟨b,0,none⟩),.agg #[.int .i64 2,.string (T tx),.string (T op),.slice up wd.length uc,.bool q]] w _
  by_cases ho:op= [35]
  · subst ho
    have e:bareS (rowS k) ⟨2,tx,[35],wd,q⟩= [[36,123,35],tx,[125]].flatten:=(by simp[bareS]);rw[e]at hl ⊢;have HP:=yH (wput_at w0.heap.size b nv l [[36,123,35],tx,[125]] hl (by simp));have ho2:((T [35]).toList== [35])=true:=(by rw[wis_text];decide);obtain⟨o,hoo⟩:∃o,T [35]=o:=⟨_,rfl⟩;obtain⟨s,hs⟩:∃s,T tx=s:=⟨_,rfl⟩;have HP:=yH (show ∀(W:World) (n:Nat),n=W.heap.size→Wr W w0.heap.size b nv l→w0.heap.size≤W.heap.size→Calls Tryz.prog 74 #[.pointer (some ⟨b,0,none⟩),.slice (some ⟨n,0,none⟩) 3 3] (W.alloc (.cells #[.string ⟨#[36,123,35]⟩,.string s,.string ⟨#[125]⟩] 9)) fun e w'=>e= .returned (.tuple #[])∧Wr w' w0.heap.size b nv (l++ [[36,123,35],tx,[125]].flatten)∧Ws w0.heap.size b W w' from by rw[←hs];exact HP.out);rw[hoo]at ho2 ⊢;rw[hs];obtain⟨L,hL⟩:∃L,l++ [[36,123,35],tx,[125]].flatten=L:=⟨_,rfl⟩;rw[hL]at HP ⊢;clear hL hs hoo hl e hu hp hw hb hR;go_enter Tryz.func125,Tryz.ntmps125
    go_wp2_with (go_at_call 74;refine(HP.out _ _ (by simp) (H0.out.1.alloc _) (by simp;omega)).mono ?_;rintro e w2 ⟨rfl,hw2,hs2⟩;have H2:=yH (And.intro hw2 hs2);clear hw2 hs2)
    refine bodyPost_ret (results_none rfl _ _ _) rfl ?_;exact⟨rfl,H2.out.1,((Ws.refl _ b w).alloc hB _).trans H2.out.2⟩
  · have e:bareS (rowS k) ⟨2,tx,op,wd,q⟩= [[36,123],tx,op].flatten++(rowS k wd++ [[125]].flatten):=by simp[bareS,ho]
    rw[e]at hl ⊢;simp only[List.length_append]at hl;have HP:=yH (wput_at w0.heap.size b nv l [[36,123],tx,op] (by omega) (by simp));have HR:=yH (fun W l' h1 h2 h3=>hR wd (.slice up wd.length uc) W l' hu hp h1 h2 h3);obtain⟨l1,hl1⟩:∃l1,l++ [[36,123],tx,op].flatten=l1:=⟨_,rfl⟩;have hz1:=congrArg List.length hl1;rw[List.length_append]at hz1;obtain⟨l2,hl2⟩:∃l2,l1++rowS k wd=l2:=⟨_,rfl⟩;have hz2:=congrArg List.length hl2;rw[List.length_append]at hz2;have HP2:=yH (wput_at w0.heap.size b nv l2 [[125]] (by omega) (by decide));have HR2:=yH (show ∀W,Below w0.heap.size w0 W→Wr W w0.heap.size b nv l1→Calls Tryz.prog 38 #[.pointer (some ⟨b,0,none⟩),.slice up wd.length uc] W fun e w'=>e= .returned (.tuple #[])∧Wr w' w0.heap.size b nv l2∧Ws w0.heap.size b W w' from fun W h1 h2=>by rw[←hl2];exact HR.out W l1 h1 h2 (by omega));have ho2:((T op).toList== [35])=false:=(by rw[wis_text];simpa using ho);obtain⟨o,hoo⟩:∃o,T op=o:=⟨_,rfl⟩;obtain⟨s,hs⟩:∃s,T tx=s:=⟨_,rfl⟩;have HP:=yH (show ∀(W:World) (n:Nat),n=W.heap.size→Wr W w0.heap.size b nv l→w0.heap.size≤W.heap.size→Calls Tryz.prog 74 #[.pointer (some ⟨b,0,none⟩),.slice (some ⟨n,0,none⟩) 3 3] (W.alloc (.cells #[.string ⟨#[36,123]⟩,.string s,.string o] 9)) fun e w'=>e= .returned (.tuple #[])∧Wr w' w0.heap.size b nv l1∧Ws w0.heap.size b W w' from by rw[←hs,←hoo,←hl1];exact HP.out);have HP2:=yH (show ∀(W:World) (n:Nat),n=W.heap.size→Wr W w0.heap.size b nv l2→w0.heap.size≤W.heap.size→Calls Tryz.prog 74 #[.pointer (some ⟨b,0,none⟩),.slice (some ⟨n,0,none⟩) 1 1] (W.alloc (.cells #[.string ⟨#[125]⟩] 9)) fun e w'=>e= .returned (.tuple #[])∧Wr w' w0.heap.size b nv (l2++ [[125]].flatten)∧Ws w0.heap.size b W w' from HP2.out);have hfin:l++([[36,123],tx,op].flatten++(rowS k wd++ [[125]].flatten))=l2++ [[125]].flatten:=(by rw[←hl2,←hl1];simp only[List.append_assoc]);rw[hfin,hoo,hs];rw[hoo]at ho2;obtain⟨N,hN⟩:∃N,wd.length=N:=⟨_,rfl⟩;rw[hN]at HR2 ⊢;obtain⟨L,hL⟩:∃L,l2++ [[125]].flatten=L:=⟨_,rfl⟩;rw[hL]at HP2 ⊢;clear hL hs hoo hl e hu hp hw hb hR HR hl1 hl2 hz1 hz2 hfin hN ho;go_enter Tryz.func125,Tryz.ntmps125
    go_wp2_with (go_at_call 74;refine(HP.out _ _ (by simp) (H0.out.1.alloc _) (by simp;omega)).mono ?_;rintro e w2 ⟨rfl,hw2,hs2⟩;have hk2:=cells_kept (heap_alloc_new w _) hs2 H0.out.2.2 (by decide);have c3:w2.cell? ⟨w.heap.size,3,none⟩=some (.slice up N uc):=(by rw[Lib.cell_of_heap hk2];rfl);have H2:=yH (And.intro hw2 (((Ws.refl _ b w).alloc hB _).trans hs2));clear hw2 hs2 hk2)
    go_wp2_with (go_at_call 38;refine(HR2.out _ (H0.out.2.1.trans H2.out.2.below) H2.out.1).mono ?_;rintro e w3 ⟨rfl,hw3,hs3⟩;have H3:=yH (And.intro hw3 (H2.out.2.trans hs3));clear hw3 hs3)
    go_wp2_with (go_at_call 74;refine(HP2.out _ _ (by rfl) H3.out.1 (Nat.le_trans hB H3.out.2.below.size)).mono ?_;rintro e w4 ⟨rfl,hw4,hs4⟩;have H4:=yH (And.intro hw4 (H3.out.2.trans hs4));clear hw4 hs4)
    go_end0
    exact⟨rfl,H4.out.1,H4.out.2⟩
def innS (row:List Pt→List UInt8) (p:Pt):List UInt8:=if p.kind=1 then escT p.text else bareS row p
def quoS (q:Bool):List UInt8:=if q then [34]else []
theorem part_out {row:List Pt→List UInt8} {rt:List Pt→Bool} {wi:Bool} {p:Pt} (h:partT rt wi p=true):partS row p=quoS p.q++(innS row p++quoS p.q):=by
  unfold partS innS quoS
  by_cases hk:p.kind=1
  · rw[if_pos hk,if_pos hk]
    cases hq:p.q with
    |true=>simp[quotedT]
    |false=>
      have:=(lit_text (part_kind h|>.resolve_right (by omega)).2).2 hq;simp[this]
  · rw[if_neg hk,if_neg hk]
    cases p.q<;>simp
set_option maxHeartbeats 2000000 in
set_option maxRecDepth 100000 in
theorem wpart_any {w0:World} {b k:Nat} {nv:Value} (hR:ORow w0 b nv k) {wi:Bool} (p:Pt) (u:Value) (w:World) (l:List UInt8) (hu:PsAt w0 u p.word) (hp:partT (rowT k) wi p=true) (hb:Below w0.heap.size w0 w) (hw:Wr w w0.heap.size b nv l) (hl:l.length+(innS (rowS k) p).length≤BigW):
    Puts 82 #[partV p u] w0.heap.size b nv l (innS (rowS k) p) w:=by
  have hlt:=hw.lt;have hX:w.heap.size≠b:=(by omega);have hB:=hb.size;have HB:=yH hB;have HWA:=yH (fun o=>hw.alloc o);have HBA:=yH (fun o=>hb.alloc hB o);have HWS:=yH (fun o=>(Ws.refl w0.heap.size b w).alloc hB o);have hword:=part_word hp;have hkind:=part_kind hp;have HV:=yH (fun W (h2:p.kind=2) (h1:Below w0.heap.size w0 W) (h3:Wr W w0.heap.size b nv l)=>wvar_any hR p u W l hu h2 hword h1 h3 (by unfold innS at hl;rwa [if_neg (by omega)]at hl));obtain⟨kd,tx,op,wd,q⟩:=p;obtain⟨up,uc,rfl, -, -⟩:=hu.is;dsimp only at hkind;unfold innS at hl ⊢;dsimp only at hl ⊢;unfold Puts;show Calls Tryz.prog 82 #[.pointer (some ⟨b,0,none⟩),.agg #[.int .i64 kd,.string (T tx),.string (T op),.slice up wd.length uc,.bool q]] w _;obtain⟨N,hN⟩:∃N,wd.length=N:=⟨_,rfl⟩
  rcases hkind with ⟨rfl,hlit⟩|rfl|rfl
  · rw[if_pos rfl]at hl ⊢
    have HLT:=yH (fun W (h3:Wr W w0.heap.size b nv l) (hB:w0.heap.size≤W.heap.size)=>wletters_any w0.heap.size b nv l tx (lit_text hlit).1 W h3 hl hB);obtain⟨L,hL⟩:∃L,escT tx=L:=⟨_,rfl⟩;obtain⟨s,hs⟩:∃s,T tx=s:=⟨_,rfl⟩;obtain⟨o,ho⟩:∃o,T op=o:=⟨_,rfl⟩;rw[hL,hs]at HLT;rw[hL,hs,ho,hN];have HLT:=yH (show ∀W,Wr W w0.heap.size b nv l→w0.heap.size≤W.heap.size→Calls Tryz.prog 124 #[.pointer (some ⟨b,0,none⟩),.string s] W fun e w'=>e= .returned (.tuple #[])∧Wr w' w0.heap.size b nv (l++L)∧Ws w0.heap.size b W w' from HLT.out);clear HV hL hs ho hN hl hu hp hw hb hR hword hlit;go_enter Tryz.func82,Tryz.ntmps82
    go_wp2_with (go_at_call 124;refine(HLT.out _ (HWA.out _) (by simp;omega)).mono ?_;rintro e w2 ⟨rfl,hw2,hs2⟩;have H2:=yH (And.intro hw2 ((HWS.out _).trans hs2));clear hw2 hs2)
    go_end0
    exact⟨rfl,H2.out⟩
  · rw[if_neg (by decide)]at hl ⊢
    obtain⟨L,hL⟩:∃L,bareS (rowS k) ⟨2,tx,op,wd,q⟩=L:=⟨_,rfl⟩;rw[hL]at HV ⊢;obtain⟨s,hs⟩:∃s,T tx=s:=⟨_,rfl⟩;obtain⟨o,ho⟩:∃o,T op=o:=⟨_,rfl⟩;have HV:=yH (show ∀W,Below w0.heap.size w0 W→Wr W w0.heap.size b nv l→Calls Tryz.prog 125 #[.pointer (some ⟨b,0,none⟩),.agg #[.int .i64 2,.string s,.string o,.slice up N uc,.bool q]] W fun e w'=>e= .returned (.tuple #[])∧Wr w' w0.heap.size b nv (l++L)∧Ws w0.heap.size b W w' from by rw[←hs,←ho,←hN];exact fun W h1 h3=>HV.out W rfl h1 h3);rw[hs,ho,hN];clear hL hs ho hN hl hu hp hw hb hR hword;go_enter Tryz.func82,Tryz.ntmps82
    go_wp2_with (go_at_call 125;refine(HV.out _ (HBA.out _) (HWA.out _)).mono ?_;rintro e w2 ⟨rfl,hw2,hs2⟩;have H2:=yH (And.intro hw2 ((HWS.out _).trans hs2));clear hw2 hs2)
    go_end0
    exact⟨rfl,H2.out⟩
  · rw[if_neg (by decide)]at hl ⊢
    have e:bareS (rowS k) ⟨3,tx,op,wd,q⟩= [[36,40,40],tx,[41,41]].flatten:=(by simp[bareS]);rw[e]at hl ⊢;have HP:=yH (wput_at w0.heap.size b nv l [[36,40,40],tx,[41,41]] hl (by simp));obtain⟨L,hL⟩:∃L,l++ [[36,40,40],tx,[41,41]].flatten=L:=⟨_,rfl⟩;rw[hL]at HP ⊢;obtain⟨s,hs⟩:∃s,T tx=s:=⟨_,rfl⟩;obtain⟨o,ho⟩:∃o,T op=o:=⟨_,rfl⟩;have HP:=yH (show ∀(W:World) (n:Nat),n=W.heap.size→Wr W w0.heap.size b nv l→w0.heap.size≤W.heap.size→Calls Tryz.prog 74 #[.pointer (some ⟨b,0,none⟩),.slice (some ⟨n,0,none⟩) 3 3] (W.alloc (.cells #[.string ⟨#[36,40,40]⟩,.string s,.string ⟨#[41,41]⟩] 9)) fun e w'=>e= .returned (.tuple #[])∧Wr w' w0.heap.size b nv L∧Ws w0.heap.size b W w' from by rw[←hs];exact HP.out);rw[hs,ho,hN];clear HV hL hs ho hN hl hu hp hw hb hR hword e;go_enter Tryz.func82,Tryz.ntmps82
    go_wp2_with (go_at_call 74;refine(HP.out _ _ (by simp) (HWA.out _) (by simp;omega)).mono ?_;rintro e w2 ⟨rfl,hw2,hs2⟩;have H2:=yH (And.intro hw2 ((HWS.out _).trans hs2));clear hw2 hs2)
    go_end0
    exact⟨rfl,H2.out⟩
set_option maxHeartbeats 2000000 in
set_option maxRecDepth 100000 in
theorem wrow_next {w0:World} {b k:Nat} {nv:Value} (hR:ORow w0 b nv k):ORow w0 b nv (k+1):=by
  intro ps v w l hv hd hb hw hL;obtain⟨p,c,rfl,hlen,hat⟩:=hv.is;have HP:=yH (fun (q:Pt) (u:Value) (W:World) (m:List UInt8) (hu:PsAt w0 u q.word) (hd:partT (rowT k) (decide (k<20)) q=true) (h1:Below w0.heap.size w0 W) (h2:Wr W w0.heap.size b nv m) (hl:m.length+(innS (rowS k) q).length≤BigW)=>wpart_any hR q u W m hu hd h1 h2 hl);have HAT:=yH hat;have HD:=yH (row_parts hd);have H0:=yH (And.intro hw (And.intro hb hb.size));have HLT:=yH hw.lt;obtain⟨R,hRR⟩:∃R,l++rowS (k+1) ps=R:=⟨_,rfl⟩;have hRL:=congrArg List.length hRR;rw[List.length_append]at hRL;have HL:=yH (show R.length≤BigW by omega);unfold Puts;rw[hRR];have HR:=yH (show l++((ps.drop 0).map (partS (rowS k))).flatten=R from hRR);show Calls Tryz.prog 38 #[.pointer (some ⟨b,0,none⟩),.slice p ps.length c] w _;obtain⟨N,hN⟩:∃N,ps.length=N:=⟨_,rfl⟩;have HN:=yH hN;have hN0:(N:Int)≤2^63-1:=(by unfold maxLen at hlen;omega);rw[hN];clear hRR hv hd hlen hat hR hN hL hw hb hRL;go_enter Tryz.func38,Tryz.ntmps38;go_wp2_with fail
  go_loopw [9] (fun i wr=> ∃(j:Nat) (m:List UInt8),i= .int .i64 (j:Int)∧j≤N∧Wr wr w0.heap.size b nv m∧Ws w0.heap.size b w wr∧m++((ps.drop j).map (partS (rowS k))).flatten=R) (fun i _=>N-(intOf i).toNat)
  case atStart=>exact⟨0,l,rfl,by omega,H0.out.1,Ws.refl _ _ _,HR.out⟩
  case round=>
    obtain⟨j,m,rfl,hj,hw,hs,hr⟩:=hrel;have hb:=H0.out.2.1.trans hs.below
    by_cases hlt:j<N
    · obtain⟨q,hq⟩:∃x,ps[j]? =some x:=⟨_,List.getElem?_eq_getElem (by rw[HN.out];exact hlt)⟩
      obtain⟨u,hsp,hu⟩:=HAT.out j q hq;have hsp:=hsp.below hb;obtain⟨bk,o,rfl,hc⟩:=hsp;have c0:=hc 0 _ rfl;rw[Nat.add_zero]at c0;have c1:=hc 1 _ rfl;have c2:=hc 2 _ rfl;have c3:=hc 3 _ rfl;have c4:=hc 4 _ rfl;have hqd:=HD.out q (List.mem_of_getElem? hq);rw[drop_get hq,List.map_cons,List.flatten_cons,part_out hqd]at hr;have hl:=congrArg List.length hr;simp only[List.length_append]at hl;have HL1:=HL.out;have hlb:=HLT.out;have hX:wr.heap.size≠b:=(by have:=hs.below.size;omega);have HB:=yH (Nat.le_trans H0.out.2.2 hs.below.size);obtain⟨kd,tx,op,wd,qq⟩:=q;obtain⟨up,uc,rfl, -, -⟩:=hu.is;dsimp only at hr hl hu;obtain⟨qs,hqs⟩:∃qs,quoS qq=qs:=⟨_,rfl⟩;rw[hqs]at hr hl;obtain⟨is,his⟩:∃is,innS (rowS k) ⟨kd,tx,op,wd,qq⟩=is:=⟨_,rfl⟩;rw[his]at hr hl;have HC:=yH (fun W h1 h2=>HP.out ⟨kd,tx,op,wd,qq⟩ _ W (m++qs) hu hqd h1 h2 (by rw[his];simp;omega));rw[his]at HC;have HQ1:=yH (wput_at w0.heap.size b nv m [qs] (by simp;omega) (by simp));have HQ2:=yH (wput_at w0.heap.size b nv ((m++qs)++is) [qs] (by simp;omega) (by simp));obtain⟨s,hs1⟩:∃s,T tx=s:=⟨_,rfl⟩;obtain⟨o1,ho1⟩:∃o,T op=o:=⟨_,rfl⟩;obtain⟨n1,hn1⟩:∃n,wd.length=n:=⟨_,rfl⟩;obtain⟨Q,hQ⟩:∃Q,T qs=Q:=⟨_,rfl⟩;have HC:=yH (show ∀W,Below w0.heap.size w0 W→Wr W w0.heap.size b nv (m++qs)→Calls Tryz.prog 82 #[.pointer (some ⟨b,0,none⟩),.agg #[.int .i64 kd,.string s,.string o1,.slice up n1 uc,.bool qq]] W fun e w'=>e= .returned (.tuple #[])∧Wr w' w0.heap.size b nv ((m++qs)++is)∧Ws w0.heap.size b W w' from by rw[←hs1,←ho1,←hn1];exact HC.out);have HQ1:=yH (show ∀(W:World) (n:Nat),n=W.heap.size→Wr W w0.heap.size b nv m→w0.heap.size≤W.heap.size→Calls Tryz.prog 74 #[.pointer (some ⟨b,0,none⟩),.slice (some ⟨n,0,none⟩) 1 1] (W.alloc (.cells #[.string Q] 9)) fun e w'=>e= .returned (.tuple #[])∧Wr w' w0.heap.size b nv (m++qs)∧Ws w0.heap.size b W w' from by rw[←hQ];have:=HQ1.out;rwa [show [qs].flatten=qs from by simp]at this);have HQ2:=yH (show ∀(W:World) (n:Nat),n=W.heap.size→Wr W w0.heap.size b nv ((m++qs)++is)→w0.heap.size≤W.heap.size→Calls Tryz.prog 74 #[.pointer (some ⟨b,0,none⟩),.slice (some ⟨n,0,none⟩) 1 1] (W.alloc (.cells #[.string Q] 9)) fun e w'=>e= .returned (.tuple #[])∧Wr w' w0.heap.size b nv (((m++qs)++is)++qs)∧Ws w0.heap.size b W w' from by rw[←hQ];have:=HQ2.out;rwa [show [qs].flatten=qs from by simp]at this);have d0:wr.cell? ⟨bk,o+j*5,none⟩=some (.int .i64 kd):=c0;have d1:wr.cell? ⟨bk,o+j*5+1,none⟩=some (.string s):=(by rw[←hs1];exact c1);have d2:wr.cell? ⟨bk,o+j*5+2,none⟩=some (.string o1):=(by rw[←ho1];exact c2);have d3:wr.cell? ⟨bk,o+j*5+3,none⟩=some (.slice up n1 uc):=(by rw[←hn1];exact c3);have d4:wr.cell? ⟨bk,o+j*5+4,none⟩=some (.bool qq):=c4;have HRR:=yH (show(((m++qs)++is)++qs)++((ps.drop (j+1)).map (partS (rowS k))).flatten=R from by rw[←hr];simp only[List.append_assoc]);have HS:=yH (And.intro hs (And.intro hw hb));have HJ:=yH hlt;have hj0:(j:Int)<(N:Int):=(by omega);have HQQ:=yH hqs;have HQT:=yH hQ;clear c0 c1 c2 c3 c4 hc hr hl hlt hj hq hu hs1 ho1 hn1 his hqd HL1 hlb hs hw hb hqs hQ
      cases qq
      all_goals
        obtain rfl:=HQQ.out;obtain rfl:=HQT.out
        go_wp2_with (go_at_call 74;refine(HQ1.out _ _ (by simp) (HS.out.2.1.alloc _) (by simp;have:=HB.out;omega)).mono ?_;rintro e w2 ⟨rfl,hw2,hs2⟩;obtain⟨e0,e1,e2,e3,e4⟩:=five_cells (cells_kept (heap_alloc_new wr _) hs2 hX (by decide));have H2:=yH (And.intro hw2 (((HS.out.1).alloc H0.out.2.2 _).trans hs2));clear hw2 hs2)
        go_wp2_with (go_at_call 82;refine(HC.out _ (H0.out.2.1.trans H2.out.2.below) H2.out.1).mono ?_;rintro e w3 ⟨rfl,hw3,hs3⟩;have H3:=yH (And.intro hw3 (H2.out.2.trans hs3));clear hw3 hs3)
        go_wp2_with (go_at_call 74;refine(HQ2.out _ _ (by rfl) H3.out.1 (Nat.le_trans H0.out.2.2 H3.out.2.below.size)).mono ?_;rintro e w4 ⟨rfl,hw4,hs4⟩;have H4:=yH (And.intro hw4 (H3.out.2.trans hs4));clear hw4 hs4)
        exact⟨⟨j+1,_,by simp,HJ.out,H4.out.1,H4.out.2,HRR.out⟩,by have:=HJ.out;simp[intOf];omega⟩
    · obtain rfl:j=N:=by omega
      have hd:ps.drop j= []:=List.drop_of_length_le (by rw[HN.out];exact Nat.le_refl _);rw[hd,List.map_nil,List.flatten_nil,List.append_nil]at hr;subst hr;have hj0:¬(j:Int)<(j:Int):=(by omega);have HW:=yH (And.intro hw hs);clear hd hj hlt hb hw hs;go_wp2_with fail
      go_end0
      exact⟨rfl,HW.out⟩
theorem wrow_any (w0:World) (b:Nat) (nv:Value):∀k,ORow w0 b nv k
  |0=>by
    intro ps v w l hv hd hb hw hL;obtain rfl:=row_zero hd;obtain⟨p,c,rfl, -, -⟩:=hv.is;have HW:=yH hw;unfold Puts;show Calls Tryz.prog 38 #[.pointer (some ⟨b,0,none⟩),.slice p 0 c] w _;rw[show rowS 0 []= []from rfl,List.append_nil];clear hw hb hv hL hd;go_enter Tryz.func38,Tryz.ntmps38;go_wp2_with fail
    go_loopw [9] (fun i wr=>i= .int .i64 0∧wr=w) (fun _ _=>0)
    case atStart=>exact⟨rfl,rfl⟩
    case round=>
      obtain⟨rfl,rfl⟩:=hrel;go_wp2_with fail
      go_end0
      exact⟨rfl,HW.out,Ws.refl _ _ _⟩
  |k+1=>wrow_next (wrow_any w0 b nv k)
theorem wword_any {w0:World} {b:Nat} {nv v:Value} {ps:List Pt} {w:World} {l:List UInt8} (hv:PsAt w0 v ps) (hd:wordT ps=true) (hb:Below w0.heap.size w0 w) (hw:Wr w w0.heap.size b nv l) (hL:l.length+(wordS ps).length≤BigW):
    Puts 38 #[v] w0.heap.size b nv l (wordS ps) w:=by
  obtain⟨h1, -,h3⟩:=word_row hd;rw[h3]at hL ⊢;exact wrow_any w0 b nv 21 ps v w l hv h1 hb hw hL
end Go.Proofs.YtcpmjkefbjbhpaaGreatDoor
