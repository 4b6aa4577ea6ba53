/-
  Proved: contracts of functions, plain facts. Conditions: as each says.
-/
import Derived.Test.YtakceggnadagmaaGreatDoorPq02
import Derived.Deep.RegionHeld
import Derived.Test.YtakceggnadagmaaGreatDoorPq00
import Derived.Lib.OthersKept
import Derived.LoopTactic
import Derived.Test.YtakceggnadagmaaGreatDoorRows
import Derived.Deep.RegionWith
import Derived.Deep.QuietTactic
import Derived.BigQuiet
namespace Go.Proofs.YtakceggnadagmaaGreatDoor
open Go Go.RowKit GlyphMath LexMath TreeMath ParseMath
theorem below_drewW {B:Nat} {w w':World} (h:Below B w w'):Below B w w'.drew:=⟨h.os,h.tape,h.output,h.size,h.block⟩
theorem PrO.dropped {w0 w:World} {X:Nat} {S S':PS} {G o c:Nat} (h:PrO w0 w X S G o c) {V:World} {n:Nat} (hn:n<S.ts.length) (hts:S'.ts=S.ts.drop n) (hg:GoodS S')
    (hb:Below w0.heap.size w0 V) (hV:V.heap[X]? =some (.cells #[.slice (some ⟨G,o+n*4,none⟩) (S.ts.length-n) (c-n),.int .i64 (S'.at_:Int),.int .i64 (S'.err:Int)] 53 (0,0))):Pr w0 V X S':=by
  have hc:=h.cap;have hl:S'.ts.length=S.ts.length-n:=(by rw[hts,List.length_drop]);exact⟨G,o+n*4,c-n,hb,h.base,by rw[hl];exact hV,by omega,by rw[hts];exact h.toks.drop n,hg⟩
set_option maxHeartbeats 1000000 in
set_option maxRecDepth 100000 in
theorem pfail_any {w0 w:World} {X:Nat} {S:PS} (h:Pr w0 w X S) (e:Nat) (he:e≤3):
    Calls Tryz.prog 46 #[.pointer (some ⟨X,0,none⟩),.int .i64 (e:Int)] w fun en w'=>en= .returned (.tuple #[])∧PStep w0 w w' X (S.fail e):=by
  have HN:=yH (pnext_any h);have HX:=yH h.base;have HG:=yH (to_fail h.good he).good;have hpos:=h.good.pos;obtain⟨G,o,c,h⟩:=h;have HO:=yH h;have hca:=h.cap;have c0:w.cell? ⟨X,0,none⟩=some (.slice (some ⟨G,o,none⟩) S.ts.length c):=(by rw[cell_plain h.head];rfl);have c2:w.cell? ⟨X,2,none⟩=some (.int .i64 (S.err:Int)):=(by rw[cell_plain h.head];rfl);have f0:=frozen_plain h.head 0;have HHD:=yH h.head;obtain⟨N,hN⟩:∃N,S.ts.length=N:=⟨_,rfl⟩;have HNN:=yH hN;rw[hN]at c0 hpos hca HHD;obtain⟨M,hM⟩:∃M:Nat,M=N-1:=⟨_,rfl⟩
  have hwr:IntKind.i64.wrap ((N:Int)-1)=(M:Int):=by
    have e1:(N:Int)-1=(M:Int):=(by omega);have hfew:=HO.out.good.few;have h2:=HNN.out;rw[e1];exact IntWalk.i64_in _ ⟨by omega,by omega⟩
  have q0:(0:Int)≤(M:Int):=(by omega);have q1:(M:Int)≤(N:Int):=(by omega);have q2:(N:Int)≤(c:Int):=(by omega);have q3:(M:Int)<(c:Int):=(by omega)
  have q4:(c-M==0)=false:=by
    have:¬c-M=0:=by omega
    simpa using this
  have q5:¬c=M:=(by omega);have HM:=yH (And.intro hM hpos);obtain⟨er,her⟩:∃er,S.err=er:=⟨_,rfl⟩;have HER:=yH her;rw[her]at c2;clear h hN hM hpos hca her
  by_cases hz:er=0
  · subst hz
    obtain⟨t,ht⟩:∃t,S.hd=t:=⟨_,rfl⟩;have HT:=yH ht;rw[ht]at HN;unfold tkV at HN;obtain⟨kd,hkd⟩:∃x,t.kind=x:=⟨_,rfl⟩;obtain⟨tx,htx⟩:∃x,T t.text=x:=⟨_,rfl⟩;obtain⟨wl,hwl⟩:∃x,t.word.length=x:=⟨_,rfl⟩;obtain⟨at_,hat⟩:∃x,t.at_=x:=⟨_,rfl⟩;have HAT:=yH hat;simp only[hkd,htx,hwl,hat]at HN;clear ht hkd htx hwl hat;rw[show ((0:Nat):Int)=0 from rfl]at c2;go_enter Tryz.func46,Tryz.ntmps46
    go_wp2_with (go_at_call 45;refine HN.out.mono ?_;rintro en w1 ⟨p,k,rfl,hu,hb1⟩;have HB1:=yH (And.intro hb1 (HO.out.kept0 hb1).head);clear hu hb1;have d1:w1.cell? ⟨X,1,none⟩=some (.int .i64 (S.at_:Int)):=(by rw[cell_plain HB1.out.2];rfl);have d2:w1.cell? ⟨X,2,none⟩=some (.int .i64 (S.err:Int)):=(by rw[cell_plain HB1.out.2];rfl);have qf:=tok_f3 kd (at_:Int) tx p wl k;have g1:=frozen_plain HB1.out.2 1;have g2:=frozen_plain HB1.out.2 2)
    have hV0:=heap_setCell_same _ X 2 _ _ (.int .i64 (e:Int)) (heap_setCell_same w1 X 1 _ _ (.int .i64 (at_:Int)) HB1.out.2);rw[HNN.out]at hV0;have hV:((w1.setCell ⟨X,1,none⟩ (.int .i64 (at_:Int))).setCell ⟨X,2,none⟩ (.int .i64 (e:Int))).heap[X]? =some (.cells #[.slice (some ⟨G,o,none⟩) N c,.int .i64 (at_:Int),.int .i64 (e:Int)] 53 (0,0)):=(by simpa using hV0);obtain⟨V,hVV⟩:∃V,V=(w1.setCell ⟨X,1,none⟩ (.int .i64 (at_:Int))).setCell ⟨X,2,none⟩ (.int .i64 (e:Int)):=⟨_,rfl⟩;rw[←hVV]at hV ⊢;have HV:=yH (And.intro hVV hV);clear c0 c2 f0 d1 d2 g1 g2 hV0 hVV;have c0:V.cell? ⟨X,0,none⟩=some (.slice (some ⟨G,o,none⟩) N c):=(by rw[cell_plain hV];rfl);have f0:=frozen_plain hV 0;clear hV
    go_region
    go_end0
    refine⟨rfl,?_⟩;have hg:=heap_setCell_same V X 0 _ _ (.slice (some ⟨G,o+M*4,none⟩) (N-M) (c-M)) HV.out.2
    have hb2:Below w0.heap.size w0 (V.setCell ⟨X,0,none⟩ (.slice (some ⟨G,o+M*4,none⟩) (N-M) (c-M))):=by
      rw[HV.out.1];exact(((HO.out.below.trans (HB1.out.1.mono HO.out.below.size)).setCell HX.out.1 _).setCell HX.out.1 _).setCell HX.out.1 _
    have hk:Kept (fun i=>i=X) w (V.setCell ⟨X,0,none⟩ (.slice (some ⟨G,o+M*4,none⟩) (N-M) (c-M))):=by
      rw[HV.out.1];exact(((Kept.of_below (D:=fun i=>i=X) HB1.out.1).setCell (p:=⟨X,1,none⟩) (.inl rfl) _).setCell (p:=⟨X,2,none⟩) (.inl rfl) _).setCell (p:=⟨X,0,none⟩) (.inl rfl) _
    refine⟨?_,hk.drew⟩;refine HO.out.dropped (n:=M) (by have:=HM.out;have:=HNN.out;omega) (by show S.ts.drop (S.ts.length-1)=_;rw[HNN.out,HM.out.1]) HG.out (below_drewW hb2) ?_;rw[HNN.out,show(S.fail e).at_=at_ by show(if S.err=0 then S.hd.at_ else S.at_)=at_;rw[if_pos HER.out,HT.out,HAT.out],show(S.fail e).err=e by show(if S.err=0 then e else S.err)=e;rw[if_pos HER.out]];exact hg
  · have hzi:((er:Int)==0)=false:=by
      have:¬(er:Int)=0:=by omega
      simpa using this
    have HZ:=yH (show S.err≠0 from by rw[HER.out];exact hz);clear hz;go_enter Tryz.func46,Tryz.ntmps46;go_wp2_with fail
    go_region
    go_end0
    refine⟨rfl,?_⟩;have hg:=heap_setCell_same w X 0 _ _ (.slice (some ⟨G,o+M*4,none⟩) (N-M) (c-M)) HHD.out;have hb2:Below w0.heap.size w0 (w.setCell ⟨X,0,none⟩ (.slice (some ⟨G,o+M*4,none⟩) (N-M) (c-M))):=HO.out.below.setCell HX.out.1 _;have hk:Kept (fun i=>i=X) w (w.setCell ⟨X,0,none⟩ (.slice (some ⟨G,o+M*4,none⟩) (N-M) (c-M))):=(Kept.refl (fun i=>i=X) w).setCell (p:=⟨X,0,none⟩) (.inl rfl) _;refine⟨?_,hk.drew⟩;refine HO.out.dropped (n:=M) (by have:=HM.out;have:=HNN.out;omega) (by show S.ts.drop (S.ts.length-1)=_;rw[HNN.out,HM.out.1]) HG.out (below_drewW hb2) ?_;rw[HNN.out,show(S.fail e).at_=S.at_ by show(if S.err=0 then S.hd.at_ else S.at_)=_;rw[if_neg HZ.out],show(S.fail e).err=S.err by show(if S.err=0 then e else S.err)=_;rw[if_neg HZ.out]];exact hg
end Go.Proofs.YtakceggnadagmaaGreatDoor
namespace Go.Proofs.YtakceggnadagmaaGreatDoor.TreeMath
open Go Go.Lib GlyphMath LexMath
theorem get_drop (s:ByteArray) (i:Nat) (h:i<s.size):s.data.toList.drop i=s.get! i::s.data.toList.drop (i+1):=by
  have hl:i<s.data.toList.length:=(by rw[←size_eq];exact h);rw[List.drop_eq_getElem_cons hl]
  congr 1
  have h2:s.data.toList[i]? =some (s.data.toList[i]):=List.getElem?_eq_getElem hl;rw[←getD_get!',List.getD_eq_getElem?_getD,h2];rfl
theorem any_cons (b:UInt8) (l cs:List UInt8):anyIn (b::l) cs=(cs.contains b||anyIn l cs):=rfl
theorem not_in {b:UInt8} {cs:List UInt8} (hb:128≤b.toNat) (hc:∀c∈cs,c.toNat<128):cs.contains b=false:=by
  cases h:cs.contains b with
  |false=>rfl
  |true=>
    have:=hc b (by simpa using h);omega
theorem drop_all (s:ByteArray) (i:Nat) (h:¬i<s.size):s.data.toList.drop i= []:=by
  rw[List.drop_eq_nil_iff,←size_eq];omega
end Go.Proofs.YtakceggnadagmaaGreatDoor.TreeMath
namespace Go.Proofs.YtakceggnadagmaaGreatDoor
open Go Go.RowKit GlyphMath LexMath TreeMath
theorem below_one (w:World) (o:Obj):Below w.heap.size w (w.alloc o):=(Below.refl _ _).alloc (Nat.le_refl _) _
theorem below_two (w:World) (o p:Obj):Below w.heap.size w ((w.alloc o).alloc p):=(below_one w o).alloc (by rw[World.size_alloc];omega) _
def PC (w:World) (b:Nat) (kd:Int) (s o:ByteArray) (u:Value) (q:Bool):Prop:=
  w.cell? ⟨b,0,none⟩=some (.int .i64 kd)∧w.cell? ⟨b,1,none⟩=some (.string s)∧w.cell? ⟨b,2,none⟩=some (.string o)∧w.cell? ⟨b,3,none⟩=some u∧w.cell? ⟨b,4,none⟩=some (.bool q)
theorem PC.new (w:World) (kd:Int) (s o:ByteArray) (u:Value) (q:Bool) (t:TypeId):PC (w.alloc (.cells #[.int .i64 kd,.string s,.string o,u,.bool q] t)) w.heap.size kd s o u q:=by
  have h:=heap_alloc_new w (.cells #[.int .i64 kd,.string s,.string o,u,.bool q] t);exact⟨cell_plain h 0,cell_plain h 1,cell_plain h 2,cell_plain h 3,cell_plain h 4⟩
theorem PC.below {w w':World} {b:Nat} {kd:Int} {s o:ByteArray} {u:Value} {q:Bool} (h:PC w b kd s o u q) (hb:Below w.heap.size w w'):PC w' b kd s o u q:=by
  have lt:∀ {a:Addr} {v:Value},w.cell? a=some v→a.block<w.heap.size:=fun h=>World.block_lt_of_cell? w _ h;obtain⟨h0,h1,h2,h3,h4⟩:=h;exact⟨(hb.cell (lt h0)).trans h0,(hb.cell (lt h1)).trans h1,(hb.cell (lt h2)).trans h2,(hb.cell (lt h3)).trans h3,(hb.cell (lt h4)).trans h4⟩
theorem int_ne {a b:Int} (h:a≠b):(a==b)=false:=beq_eq_false_iff_ne.2 h
set_option maxRecDepth 100000 in
theorem isBare_any (p:Pt) (u:Value) (w:World):
    Calls Tryz.prog 160 #[partV p u] w fun e w'=>e= .returned (.bool (bareT p))∧Below w.heap.size w w':=by
  obtain⟨kd,tx,op,wd,q⟩:=p;have HB:=yH (fun o=>below_one w o)
  by_cases h:kd=1
  · subst h
    have HT:=yH (show bareT ⟨1,tx,op,wd,q⟩= !q from rfl);rw[HT.out];unfold partV txt;go_enter Tryz.func160,Tryz.ntmps160;go_wp2_with fail;go_ret;exact⟨rfl,HB.out _⟩
  · have h1:=int_ne h
    have HT:=yH (show bareT ⟨kd,tx,op,wd,q⟩=false by unfold bareT;simp only[h1,Bool.false_and]);rw[HT.out];clear h;unfold partV txt;go_enter Tryz.func160,Tryz.ntmps160;go_wp2_with fail;go_ret;exact⟨rfl,HB.out _⟩
theorem empty_len {α:Type} (l:List α):((l.length:Int)==0)=l.isEmpty:=by
  cases l with
  |nil=>rfl
  |cons a r=>
    show(((a::r).length:Int)==0)=false;exact int_ne (by rw[List.length_cons];omega)
theorem list_ne {l k:List UInt8} (h:l≠k):(l==k)=false:=beq_eq_false_iff_ne.2 h
theorem nil_ne {l:List UInt8} (h:l≠ []):l.isEmpty=false:=by
  cases l with
  |nil=>exact absurd rfl h
  |cons _ _=>rfl
end Go.Proofs.YtakceggnadagmaaGreatDoor
namespace Go.Proofs.YtakceggnadagmaaGreatDoor
open Go
section
variable {P : Program} {ops : Array Oper} {Q : Exit → Act → World → Prop} {md : Region.Mode} {S : World → Prop}
theorem takeW {i k:Nat} {oi:Oper} {v:Value} {fuel:Nat} {listed:Array Bool} {a:Act} {w:World} (hi:ops[i]? =some oi) (hk:oi.dst=some k)
    (hs:Region.noSelect ops=true) (hf:Region.free md ops listed i=true) (hr:(Region.ready md ops listed).contains i=true)
    (hQ:∀c a w,Q (.panic c) (a.put oi.dst v) w→Q (.panic c) a w) (hw:Region.wanted oi (yielded ops a.tmps)=true)
    (hy:∀w,S w→(execOp a.eval oi).run P w= .ok (.value v) w) (hS:S w)
    (h:wpAnyH P md ops Q S fuel (listed.setIfInBounds i true) { a with tmps:=a.tmps.setIfInBounds k v } w):wpAnyH P md ops Q S (fuel+1) listed a w:=
  wpAnyH_take hi hs hf hr hQ (Or.inl ⟨hw,hy⟩) hS (by rw[hk];exact h)
theorem takeN {i k:Nat} {oi:Oper} {fuel:Nat} {listed:Array Bool} {a:Act} {w:World} (hi:ops[i]? =some oi) (hk:oi.dst=some k)
    (hs:Region.noSelect ops=true) (hf:Region.free md ops listed i=true) (hr:(Region.ready md ops listed).contains i=true)
    (hQ:∀c a w,Q (.panic c) (a.put oi.dst undef) w→Q (.panic c) a w) (hw:Region.wanted oi (yielded ops a.tmps)=false) (hS:S w)
    (h:wpAnyH P md ops Q S fuel (listed.setIfInBounds i true) { a with tmps:=a.tmps.setIfInBounds k undef } w):wpAnyH P md ops Q S (fuel+1) listed a w:=
  wpAnyH_take hi hs hf hr hQ (Or.inr ⟨hw,rfl⟩) hS (by rw[hk];exact h)
end
section
variable {P : Program} {ops : Array Oper} {Q : Exit → Act → World → Prop} {md : Region.Mode} {S : World → Prop}
theorem tkW (i k:Nat) {oi:Oper} {fuel:Nat} {listed:Array Bool} {a:Act} {w:World} (hi:ops[i]? =some oi) (hk:oi.dst=some k) (v:Value) (hy:∀w,S w→(execOp a.eval oi).run P w= .ok (.value v) w)
    (h:wpAnyH P md ops Q S fuel (listed.setIfInBounds i true) { a with tmps:=a.tmps.setIfInBounds k v } w) (hs:Region.noSelect ops=true:=by kernel_rfl) (hf:Region.free md ops listed i=true:=by kernel_rfl) (hr:(Region.ready md ops listed).contains i=true:=by kernel_rfl)
    (hQ:∀c a w,Q (.panic c) (a.put oi.dst v) w→Q (.panic c) a w:=by exact fun _ _ _ h=>h) (hw:Region.wanted oi (yielded ops a.tmps)=true:=by rfl) (hS:S w:=by assumption):wpAnyH P md ops Q S (fuel+1) listed a w:=takeW hi hk hs hf hr hQ hw hy hS h
theorem cW (i:Nat) {o:Oper} {fuel:Nat} {listed:Array Bool} {a:Act} {w:World} (ho:ops[i]? =some o)
    (h:∀K':Act→World→Prop,Shut (∀a w,S w→(S w→wpAnyH P md ops Q S fuel (listed.setIfInBounds i true) a w)→K' a w)→if Region.wanted o (yielded ops a.tmps)=true then Oper.wp P o a w K' Q else K' (a.put o.dst undef) w) (hr:Region.ready md ops listed= [i]:=by kernel_rfl):wpAnyH P md ops Q S (fuel+1) listed a w:=
  wpAnyH_ready hr (by simp) (AllReadyH.cons ho h AllReadyH.nil)
end
end Go.Proofs.YtakceggnadagmaaGreatDoor
namespace Go.Proofs.YtakceggnadagmaaGreatDoor
open Go Go.RowKit GlyphMath LexMath TreeMath
def prevO (ps:List Pt) (j:Nat):Option Pt:=match j with
  |0=>none
  |m+1=>ps[m]?
theorem drop_get {α:Type} {l:List α} {j:Nat} {q:α} (h:l[j]? =some q):l.drop j=q::l.drop (j+1):=by
  obtain⟨hj,rfl⟩:=List.getElem?_eq_some_iff.1 h;exact List.drop_eq_getElem_cons hj
theorem below_drew1 (B:Nat) (w:World):Below B w w.drew:=⟨rfl,rfl,rfl,Nat.le_refl _,fun _ _=>rfl⟩
theorem word_cell (w:World) (v:Value) (t:TypeId):(w.alloc (.cells #[v] t)).cell? ⟨w.heap.size,0,none⟩=some v:=cell_plain (heap_alloc_new w _) 0
theorem cell_below {w w1:World} {a:Addr} {v:Value} (h:w.cell? a=some v) (hb:Below w.heap.size w w1):w1.cell? a=some v:=(hb.cell (World.block_lt_of_cell? w _ h)).trans h
theorem first_cells {w:World} {v:Value} {q:Pt} {r:List Pt} (hv:PsAt w v (q::r)):∃b o c u,v= .slice (some ⟨b,o,none⟩) (r.length+1) c∧(∃up uc,u= .slice up q.word.length uc)∧
    w.cell? ⟨b,o,none⟩=some (.int .i64 q.kind)∧w.cell? ⟨b,o+1,none⟩=some (.string (T q.text))∧w.cell? ⟨b,o+2,none⟩=some (.string (T q.op))∧w.cell? ⟨b,o+3,none⟩=some u∧w.cell? ⟨b,o+4,none⟩=some (.bool q.q):=by
  obtain⟨p,c,rfl, -,hat⟩:=hv.is;obtain⟨u,⟨b,o,rfl,hc⟩,hu⟩:=hat 0 q rfl;obtain⟨up,uc,hup, -⟩:=hu.is;refine⟨b,o,c,u,rfl,⟨up,uc,hup⟩,?_,?_,?_,?_,?_⟩
  · simpa using hc 0 _ rfl
  · have:=hc 1 _ rfl;rwa [show o+0*5+1=o+1 by omega]at this
  · have:=hc 2 _ rfl;rwa [show o+0*5+2=o+2 by omega]at this
  · have:=hc 3 _ rfl;rwa [show o+0*5+3=o+3 by omega]at this
  · have:=hc 4 _ rfl;rwa [show o+0*5+4=o+4 by omega]at this
set_option maxRecDepth 100000 in
theorem plain_any (ps:List Pt) (v:Value) (w:World) (hv:PsAt w v ps):
    Calls Tryz.prog 131 #[wordV v] w fun e w'=>e= .returned (.tuple #[.string (T ((plainT ps).getD [])),.bool (plainT ps).isSome])∧Below w.heap.size w w':=by
  have HB:=yH (fun o=>below_one w o);unfold wordV
  by_cases h1:∃q,ps= [q]
  · obtain⟨q,rfl⟩:=h1
    obtain⟨b,o,c,u,rfl,⟨up,uc,rfl⟩,c0,c1,c2,c3,c4⟩:=first_cells hv;have HI:=yH (fun W=>isBare_any q (.slice up q.word.length uc) W);obtain⟨s,hs⟩:∃s,T q.text=s:=⟨_,rfl⟩;obtain⟨s2,hs2⟩:∃s,T q.op=s:=⟨_,rfl⟩;obtain⟨kd,hkd⟩:∃s,q.kind=s:=⟨_,rfl⟩;obtain⟨qq,hqq⟩:∃s,q.q=s:=⟨_,rfl⟩;obtain⟨ul,hul⟩:∃s,q.word.length=s:=⟨_,rfl⟩;have HI:=yH (show ∀W,Calls Tryz.prog 160 #[.agg #[.int .i64 kd,.string s,.string s2,.slice up ul uc,.bool qq]] W fun e w'=>e= .returned (.bool (bareT q))∧Below W.heap.size W w' from fun W=>by rw[←hs,←hs2,←hkd,←hqq,←hul];exact HI.out W);rw[hs]at c1;rw[hs2]at c2;rw[hkd]at c0;rw[hqq]at c4;rw[hul]at c3;obtain⟨B,hBB⟩:∃B,bareT q=B:=⟨_,rfl⟩;rw[hBB]at HI
    have HT:=yH (show T ((plainT [q]).getD [])=(if B=true then s else⟨#[]⟩)∧(plainT [q]).isSome=B from by
      rw[←hBB,←hs];show T ((if bareT q=true then some q.text else none).getD [])=_∧(if bareT q=true then some q.text else none).isSome=_
      cases bareT q<;>exact⟨rfl,rfl⟩)
    rw[HT.out.1,HT.out.2];have d0:=fun x=>cell_below c0 (HB.out x);have d1:=fun x=>cell_below c1 (HB.out x);have d2:=fun x=>cell_below c2 (HB.out x);have d3:=fun x=>cell_below c3 (HB.out x);have d4:=fun x=>cell_below c4 (HB.out x);clear hv hs hs2 hkd hqq hul hBB;show Calls _ _ #[.agg #[.slice (some ⟨b,o,none⟩) 1 c]] _ _
    cases B with
    |true=>
      go_enter Tryz.func131,Tryz.ntmps131
      go_wp2_with (go_at_call 160;refine(HI.out _).mono ?_;rintro e w1 ⟨rfl,hb⟩;have hx:=(hb.cell (World.block_lt_of_cell? _ _ (word_cell w (.slice (some ⟨b,o,none⟩) 1 c) 70))).trans (word_cell w (.slice (some ⟨b,o,none⟩) 1 c) 70);have HB1:=yH ((HB.out _).trans (hb.mono (HB.out _).size));have hx1:=cell_below c1 HB1.out;clear hb)
      go_ret2
      exact⟨rfl,HB1.out⟩
    |false=>
      go_enter Tryz.func131,Tryz.ntmps131
      go_wp2_with (go_at_call 160;refine(HI.out _).mono ?_;rintro e w1 ⟨rfl,hb⟩;have HB1:=yH ((HB.out _).trans (hb.mono (HB.out _).size));clear hb)
      go_ret2
      exact⟨rfl,HB1.out⟩
  · have hp:plainT ps=none:=by
      match ps,h1 with
      | [],_=>rfl
      | [q],h=>exact absurd ⟨q,rfl⟩ h
      |_::_::_,_=>rfl
    obtain⟨p,c,rfl, -, -⟩:=hv.is
    have hl:¬ps.length=1:=fun e=>h1 (by
      match ps,e with
      | [q],_=>exact⟨q,rfl⟩)
    rw[hp];obtain⟨L,hL⟩:∃L,ps.length=L:=⟨_,rfl⟩;rw[hL]at hl ⊢
    have hne:((L:Int) !=1)=true:=by
      have:(L:Int)≠1:=by omega
      simpa using this
    clear hv h1 hp hL hl;go_enter Tryz.func131,Tryz.ntmps131;go_wp2_with fail
    go_ret2
    exact⟨rfl,HB.out _⟩
def nodeV (n:Nd) (kv wv pv av rv:Value):Value:= .agg #[txt n.op,txt n.name,kv,wv,pv,av,rv]
theorem SlAt.cell {w:World} {size:Nat} {α:Type} {P:α→List Value→Prop} {v:Value} {l:List α} (h:SlAt w size α P v l) {b o n c:Nat} (hv:v= .slice (some ⟨b,o,none⟩) n c) {k:Nat} {x:α} (hk:l[k]? =some x):
    ∃cs,P x cs∧∀i u,cs[i]? =some u→w.cell? ⟨b,o+k*size+i,none⟩=some u:=by
  obtain⟨⟨p,c',hv',hx⟩, -⟩:=h;obtain⟨cs,⟨b',o',hp,hc⟩,hP⟩:=hx k x hk;subst hp;rw[hv]at hv';simp only[Value.slice.injEq,Option.some.injEq,Addr.mk.injEq,and_true]at hv';obtain⟨⟨rfl,rfl⟩, -⟩:=hv';exact⟨cs,hP,hc⟩
theorem SlAt.ptr {w:World} {size:Nat} {α:Type} {P:α→List Value→Prop} {p:Option Addr} {n c:Nat} {l:List α} (h:SlAt w size α P (.slice p n c) l) {k:Nat} {x:α} (hk:l[k]? =some x):∃b o,p=some ⟨b,o,none⟩:=by
  obtain⟨⟨p',c',hv',hx⟩, -⟩:=h;obtain⟨cs,⟨b',o',hp,hc⟩,hP⟩:=hx k x hk;subst hp;simp only[Value.slice.injEq]at hv';exact⟨_,_,hv'.1⟩
theorem WsAt.is {w:World} {v:Value} {l:List (List Pt)} (h:WsAt w v l):∃p c,v= .slice p l.length c:=by
  obtain⟨⟨p,c,hv, -⟩, -⟩:=h;exact⟨p,c,hv⟩
theorem PatsAt.is {w:World} {v:Value} {l:List (List (List Pt))} (h:PatsAt w v l):∃p c,v= .slice p l.length c:=by
  obtain⟨⟨p,c,hv, -⟩, -⟩:=h;exact⟨p,c,hv⟩
theorem AsAt.is {w:World} {v:Value} {l:List (List UInt8×List Pt)} (h:AsAt w v l):∃p c,v= .slice p l.length c:=by
  obtain⟨⟨p,c,hv, -⟩, -⟩:=h;exact⟨p,c,hv⟩
theorem KidsAt.is {w:World} {v:Value} {l:List Int} (h:KidsAt w v l):∃p c,v= .slice p l.length c:=by
  obtain⟨⟨p,c,hv, -⟩, -⟩:=h;exact⟨p,c,hv⟩
theorem NsAt.is {w:World} {v:Value} {l:List Nd} (h:NsAt w v l):∃p c,v= .slice p l.length c:=by
  obtain⟨⟨p,c,hv, -⟩, -⟩:=h;exact⟨p,c,hv⟩
set_option maxHeartbeats 1000000 in
theorem reserved_any (l:List UInt8) (w:World):
    Calls Tryz.prog 180 #[.string (T l)] w fun e w'=>e= .returned (.bool (reservedT l))∧w=w':=by
  obtain⟨o,ho⟩:∃o,T l=o:=⟨_,rfl⟩;have hl:o.toList=l:=(by rw[←ho,Lib.toList_data]);rw[ho,←hl];clear ho hl;obtain⟨R,hR⟩:∃R,reservedT o.toList=R:=⟨_,rfl⟩;have HR:=yH hR;rw[hR];clear hR;go_enter Tryz.func180,Tryz.ntmps180;go_wp2_with fail
  all_goals
    go_ret;refine⟨ret_bool ?_,rfl⟩;rw[←HR.out]
    first
      |(simp only[reservedT,reservedL,List.contains_cons,List.contains_nil,Bool.or_false,Bool.true_or,Bool.false_or, *];done)
      |(simp_all;done)
theorem nat_beq (a b:Nat):((a:Int)==(b:Int))=(a==b):=by
  by_cases h:a=b
  · subst h;simp
  · have h1:(a==b)=false:=by simpa using h
    rw[h1];exact int_ne (by omega)
def NV (n:Nd) (kp wp pp ap rp:Option Addr) (kc wc pc ac rc:Nat):Value:=nodeV n (.slice kp n.kids.length kc) (.slice wp n.words.length wc) (.slice pp n.pats.length pc) (.slice ap n.assigns.length ac) (.slice rp n.redirs.length rc)
end Go.Proofs.YtakceggnadagmaaGreatDoor
namespace Go.Proofs.YtakceggnadagmaaGreatDoor
open Go Go.RowKit GlyphMath LexMath TreeMath ParseMath
theorem below_new (w:World) (o:Obj):Below w.heap.size w (w.alloc o):=(Below.refl _ w).alloc (Nat.le_refl _) _
theorem text_any {w0 w:World} (hb:Below w0.heap.size w0 w) (t:Tk) (p:Option Addr) (k:Nat) (hu:PsAt w0 (.slice p t.word.length k) t.word):
    Calls Tryz.prog 104 #[tkV t p k] w fun e w'=>e= .returned (.string (T (textK t)))∧Below w.heap.size w w':=by
  have HB:=yH (below_new w);have HP:=yH (fun o=>plain_any t.word _ _ (hu.stays (hb.trans ((below_new w o).mono hb.size))));unfold wordV at HP;unfold tkV;obtain⟨kd,hkd⟩:∃x,t.kind=x:=⟨_,rfl⟩;have HT:=yH (show textK t=if kd=1 then(plainT t.word).getD []else t.text from by rw[←hkd];rfl);obtain⟨tx,htx⟩:∃x,T t.text=x:=⟨_,rfl⟩;obtain⟨wl,hwl⟩:∃x,t.word.length=x:=⟨_,rfl⟩;obtain⟨at_,hat⟩:∃x:Int,(t.at_:Int)=x:=⟨_,rfl⟩;have HTX:=yH htx;rw[hwl]at HP;rw[hkd,htx,hwl,hat];obtain⟨R,hR⟩:∃R,T (textK t)=R:=⟨_,rfl⟩;have HR:=yH hR;rw[hR];clear hu hb hkd htx hwl hat hR
  by_cases h1:kd=1
  · subst h1
    have HE:=yH (show T ((plainT t.word).getD [])=R by rw[←HR.out,HT.out,if_pos rfl]);rw[HE.out]at HP;go_enter Tryz.func104,Tryz.ntmps104
    go_wp2_with (go_at_call 131;refine(HP.out _).mono ?_;rintro e w1 ⟨rfl,hb1⟩;have HB1:=yH ((HB.out _).trans (hb1.mono (HB.out _).size));clear hb1)
    go_ret;exact⟨rfl,HB1.out⟩
  · have hk1:(kd==1)=false:=by simpa using h1
    have HE:=yH (show tx=R by rw[←HR.out,HT.out,if_neg h1,HTX.out]);clear h1;go_enter Tryz.func104,Tryz.ntmps104;go_wp2_with fail;go_ret;exact⟨by rw[HE.out];rfl,HB.out _⟩
theorem pis_any {w0 w:World} {X:Nat} {S:PS} (h:Pr w0 w X S) (s:List UInt8):
    Calls Tryz.prog 129 #[.pointer (some ⟨X,0,none⟩),.string (T s)] w fun e w'=>e= .returned (.bool (S.is s))∧Below w.heap.size w w':=by
  have HN:=yH (pnext_any h);have HP:=yH h.below;have HI:=yH (show S.is s=(textK S.hd==s)from rfl);clear h;obtain⟨B,hB⟩:∃B,S.is s=B:=⟨_,rfl⟩;rw[hB]at HI ⊢;clear hB;obtain⟨t,ht⟩:∃t,S.hd=t:=⟨_,rfl⟩;rw[ht]at HN HI;clear ht;obtain⟨R,hR⟩:∃R,T (textK t)=R:=⟨_,rfl⟩;obtain⟨s2,hs2⟩:∃R,T s=R:=⟨_,rfl⟩;have HE:=yH (And.intro hR hs2);rw[hs2];clear hR hs2;go_enter Tryz.func129,Tryz.ntmps129
  go_wp2_with (first
    |(go_at_call 45;refine HN.out.mono ?_;rintro en w1 ⟨p,k,rfl,hu,hb1⟩;have HB1:=yH hb1;have HC:=yH (text_any (HP.out.trans (hb1.mono HP.out.size)) t p k hu);clear hu hb1)
    |(go_at_call 104;refine HC.out.mono ?_;rintro en w2 ⟨rfl,hb2⟩;have HB2:=yH hb2;clear hb2;rw[HE.out.1]))
  go_ret;refine⟨ret_bool ?_,HB1.out.trans (HB2.out.mono HB1.out.size)⟩;rw[HI.out,←HE.out.1,←HE.out.2,Lib.toList_data,Lib.toList_data]
theorem ptakes_any {w0 w:World} {X:Nat} {S:PS} (h:Pr w0 w X S) (s:List UInt8):
    Calls Tryz.prog 102 #[.pointer (some ⟨X,0,none⟩),.string (T s)] w fun e w'=>e= .returned (.bool (S.takes s).1)∧PStep w0 w w' X (S.takes s).2:=by
  have HI:=yH (pis_any h s);have HP:=yH h;clear h;obtain⟨s2,hs2⟩:∃R,T s=R:=⟨_,rfl⟩;rw[hs2]at HI ⊢;clear hs2;unfold PS.takes
  cases hi:S.is s with
  |true=>
    rw[hi]at HI;clear hi;go_enter Tryz.func102,Tryz.ntmps102
    go_wp2_with (first
      |(go_at_call 129;refine HI.out.mono ?_;rintro en w1 ⟨rfl,hb1⟩;have HB1:=yH hb1;clear hb1)
      |(go_at_call 105;refine(ptake_any (HP.out.new HB1.out)).mono ?_;rintro en w2 ⟨p,k,rfl, -,hs⟩;have HS:=yH hs;clear hs))
    go_ret;exact⟨rfl,HS.out.1,(Kept.of_below HB1.out).on HS.out.2⟩
  |false=>
    rw[hi]at HI;clear hi;go_enter Tryz.func102,Tryz.ntmps102
    go_wp2_with (go_at_call 129;refine HI.out.mono ?_;rintro en w1 ⟨rfl,hb1⟩;have HB1:=yH hb1;clear hb1)
    go_ret;exact⟨rfl,HP.out.new HB1.out,Kept.of_below HB1.out⟩
theorem pneed_any {w0 w:World} {X:Nat} {S:PS} (h:Pr w0 w X S) (s:List UInt8):
    Calls Tryz.prog 182 #[.pointer (some ⟨X,0,none⟩),.string (T s)] w fun e w'=>e= .returned (.tuple #[])∧PStep w0 w w' X (S.need s):=by
  have HI:=yH (ptakes_any h s);clear h;obtain⟨s2,hs2⟩:∃R,T s=R:=⟨_,rfl⟩;rw[hs2]at HI ⊢;clear hs2;unfold PS.takes at HI;unfold PS.need
  cases hi:S.is s with
  |true=>
    rw[hi,if_pos rfl]at HI;clear hi;go_enter Tryz.func182,Tryz.ntmps182
    go_wp2_with (go_at_call 102;refine HI.out.mono ?_;rintro en w1 ⟨rfl,hs⟩;have HS:=yH hs;clear hs)
    go_end0
    exact⟨rfl,HS.out⟩
  |false=>
    rw[hi,if_neg (by decide)]at HI;clear hi;go_enter Tryz.func182,Tryz.ntmps182
    go_wp2_with (first
      |(go_at_call 102;refine HI.out.mono ?_;rintro en w1 ⟨rfl,hs⟩;have HS:=yH hs;clear hs)
      |(go_at_call 46;refine(pfail_any HS.out.1 2 (by decide)).mono ?_;rintro en w2 ⟨rfl,hs2⟩;have HS2:=yH hs2;clear hs2))
    go_end0
    exact⟨rfl,HS.out.trans HS2.out⟩
theorem pisWord_any {w0 w:World} {X:Nat} {S:PS} (h:Pr w0 w X S):
    Calls Tryz.prog 189 #[.pointer (some ⟨X,0,none⟩)] w fun e w'=>e= .returned (.bool S.isWord)∧Below w.heap.size w w':=by
  have HN:=yH (pnext_any h);have HI:=yH (show S.isWord=(S.hd.kind==1)from rfl);clear h;obtain⟨B,hB⟩:∃B,S.isWord=B:=⟨_,rfl⟩;rw[hB]at HI ⊢;clear hB;unfold tkV at HN;obtain⟨t,ht⟩:∃t,S.hd=t:=⟨_,rfl⟩;rw[ht]at HN HI;obtain⟨kd,hkd⟩:∃x,t.kind=x:=⟨_,rfl⟩;obtain⟨tx,htx⟩:∃x,T t.text=x:=⟨_,rfl⟩;obtain⟨wl,hwl⟩:∃x,t.word.length=x:=⟨_,rfl⟩;obtain⟨at_,hat⟩:∃x:Int,(t.at_:Int)=x:=⟨_,rfl⟩;rw[hkd]at HI;simp only[hkd,htx,hwl,hat]at HN;clear ht hkd htx hwl hat;go_enter Tryz.func189,Tryz.ntmps189
  go_wp2_with (go_at_call 45;refine HN.out.mono ?_;rintro en w1 ⟨p,k,rfl, -,hb1⟩;have HB1:=yH hb1;clear hb1;have qf:=tok_f0 kd at_ tx p wl k)
  go_ret;exact⟨ret_bool HI.out.symm,HB1.out⟩
theorem pisName_any {w0 w:World} {X:Nat} {S:PS} (h:Pr w0 w X S):
    Calls Tryz.prog 179 #[.pointer (some ⟨X,0,none⟩)] w fun e w'=>e= .returned (.bool S.isName)∧Below w.heap.size w w':=by
  have HN:=yH (pnext_any h);have HP:=yH h.below;have HI:=yH (show ∀W,Calls Tryz.prog 178 #[.string (T (textK S.hd))] W fun e w'=>e= .returned (.bool S.isName)∧_ from fun W=>name_any (T (textK S.hd)) W);clear h;obtain⟨B,hB⟩:∃B,S.isName=B:=⟨_,rfl⟩;rw[hB]at HI ⊢;clear hB;obtain⟨t,ht⟩:∃t,S.hd=t:=⟨_,rfl⟩;rw[ht]at HN HI;clear ht;go_enter Tryz.func179,Tryz.ntmps179
  go_wp2_with (first
    |(go_at_call 45;refine HN.out.mono ?_;rintro en w1 ⟨p,k,rfl,hu,hb1⟩;have HB1:=yH hb1;have HC:=yH (text_any (HP.out.trans (hb1.mono HP.out.size)) t p k hu);clear hu hb1)
    |(go_at_call 104;refine HC.out.mono ?_;rintro en w2 ⟨rfl,hb2⟩;have HB2:=yH hb2;clear hb2)
    |(go_at_call 178;refine(HI.out _).mono ?_;rintro en w3 ⟨rfl,hb3⟩;have HB3:=yH hb3;clear hb3))
  go_ret;exact⟨rfl,(HB1.out.trans (HB2.out.mono HB1.out.size)).trans (HB3.out.mono (Nat.le_trans HB1.out.size HB2.out.size))⟩
theorem word_info:(Tryz.prog.info? 70).map (·.size)=some 1:=by kernel_rfl
theorem ret_word {fn:Func} {p:Tmp} (hf:fn.results= #[.cell p 70]) {tmps:Array Value} {k:Nat} {a:Value} {w:World} {t:TypeId} {fr:Nat×Nat} (h:w.heap[k]? =some (.cells #[a] t fr)) (h2:tmps.getD p undef= .pointer (some ⟨k,0,none⟩)):
    (results fn tmps).run Tryz.prog w= .ok (.agg #[a]) w:=results_cell_row hf tmps w k t #[a] fr _ h2 h Tryz.underlying70 rfl word_info
theorem pword_any {w0 w:World} {X:Nat} {S:PS} (h:Pr w0 w X S):
    Calls Tryz.prog 191 #[.pointer (some ⟨X,0,none⟩)] w fun e w'=> ∃p k,e= .returned (.agg #[.slice p S.word.1.length k])∧PsAt w0 (.slice p S.word.1.length k) S.word.1∧PStep w0 w w' X S.word.2:=by
  have h1:∀o,Pr w0 (w.alloc o) X S:=fun o=>h.new (below_new w o);have HI:=yH (fun o=>pisWord_any (h1 o));have HP:=yH h1;have HX:=yH h.base;have HB:=yH (below_new w);have HZ:=yH (heap_alloc_new w);have HSZ:=yH (show ∀o,w.heap.size<(w.alloc o).heap.size from fun o=>by simp);clear h h1;unfold PS.word;obtain⟨S1,hS1⟩:∃S1,S.want S.isWord=S1:=⟨_,rfl⟩;have HS1:=yH hS1;rw[hS1];clear hS1;obtain⟨t,ht⟩:∃t,S1.hd=t:=⟨_,rfl⟩;have HT:=yH ht;rw[ht];clear ht;obtain⟨kd,hkd⟩:∃x,t.kind=x:=⟨_,rfl⟩;obtain⟨tx,htx⟩:∃x,T t.text=x:=⟨_,rfl⟩;obtain⟨wl,hwl⟩:∃x,t.word.length=x:=⟨_,rfl⟩;obtain⟨at_,hat⟩:∃x:Int,(t.at_:Int)=x:=⟨_,rfl⟩;rw[hwl]
  have HTK:=yH (show ∀W,Pr w0 W X S1→Calls Tryz.prog 105 #[.pointer (some ⟨X,0,none⟩)] W fun e w'=> ∃p k,e= .returned (.agg #[.int .i64 kd,.string tx,.slice p wl k,.int .i64 at_])∧PsAt w0 (.slice p wl k) t.word∧PStep w0 W w' X S1.take from fun W hW=>by
    have:=ptake_any hW;unfold tkV at this;rw[HT.out]at this;simp only[hkd,htx,hwl,hat]at this
    exact this)
  clear hkd htx hwl hat
  have fin:∀(W W2:World),Below w.heap.size w W→PStep w0 W W2 X S1.take→W.heap[w.heap.size]? =some (.cells #[.slice none 0 0] 70)→w.heap.size<W.heap.size→
      W2.heap[w.heap.size]? =some (.cells #[.slice none 0 0] 70)∧∀u,PStep w0 w (W2.setCell ⟨w.heap.size,0,none⟩ u) X S1.take:=fun W W2 hb hs hz hsz=>by
    have hx:=HX.out;refine⟨hs.2.heap hz (by omega),fun u=>⟨hs.1.kept (D:=fun i=>i=w.heap.size) ((Kept.refl (fun i=>i=w.heap.size) W2).setCell (p:=⟨w.heap.size,0,none⟩) (.inl rfl) _) (by omega) (fun i hi=>by omega),?_⟩⟩;exact((Kept.of_below (D:=fun i=>i=X) hb).on hs.2).setCell (p:=⟨w.heap.size,0,none⟩) (.inr (Nat.le_refl _)) _
  have HF:=yH fin;clear fin
  cases hi:S.isWord with
  |true=>
    rw[hi]at HI HS1;have HS:=yH (show S=S1 from by have:=HS1.out;unfold PS.want at this;rwa [if_pos rfl]at this);clear hi;go_enter Tryz.func191,Tryz.ntmps191
    go_wp2_with (first
      |(go_at_call 189;refine(HI.out _).mono ?_;rintro en w1 ⟨rfl,hb1⟩;have HB1:=yH (And.intro ((HB.out _).trans (hb1.mono (HB.out _).size)) (And.intro ((HP.out _).new hb1) (And.intro ((hb1.block w.heap.size (HSZ.out _)).trans (HZ.out _)) (Nat.lt_of_lt_of_le (HSZ.out _) hb1.size))));clear hb1;rw[HS.out]at HB1)
      |(go_at_call 105;refine(HTK.out _ HB1.out.2.1).mono ?_;rintro en w2 ⟨p,k,rfl,hu,hs⟩;have qf:=tok_f2 kd at_ tx p wl k;have hz:=(HF.out w1 w2 HB1.out.1 hs HB1.out.2.2.1 HB1.out.2.2.2);have c0:=cell_plain hz.1 0;have f0:=frozen_plain hz.1 0;have HU:=yH (And.intro hu hz);clear hu hs hz))
    (try simp only[Exit.inBlock,Exit.then])
    refine bodyPost_ret (ret_word rfl (heap_set_one HU.out.2.1 _) rfl) rfl ?_;exact⟨p,k,rfl,HU.out.1,HU.out.2.2 _⟩
  |false=>
    rw[hi]at HI HS1;have HS:=yH (show S.fail 2=S1 from by have:=HS1.out;unfold PS.want at this;rwa [if_neg (by decide)]at this);clear hi;go_enter Tryz.func191,Tryz.ntmps191
    go_wp2_with (first
      |(go_at_call 189;refine(HI.out _).mono ?_;rintro en w1 ⟨rfl,hb1⟩;have HB1:=yH (And.intro ((HB.out _).trans (hb1.mono (HB.out _).size)) (And.intro ((HP.out _).new hb1) (And.intro ((hb1.block w.heap.size (HSZ.out _)).trans (HZ.out _)) (Nat.lt_of_lt_of_le (HSZ.out _) hb1.size))));clear hb1)
      |(go_at_call 46;refine(pfail_any HB1.out.2.1 2 (by decide)).mono ?_;rintro en w3 ⟨rfl,hs⟩;rw[HS.out]at hs;have HS3:=yH hs;clear hs)
      |(go_at_call 105;refine(HTK.out _ HS3.out.1).mono ?_;rintro en w2 ⟨p,k,rfl,hu,hs⟩;have qf:=tok_f2 kd at_ tx p wl k;have hz:=(HF.out w1 w2 HB1.out.1 (HS3.out.trans hs) HB1.out.2.2.1 HB1.out.2.2.2);have c0:=cell_plain hz.1 0;have f0:=frozen_plain hz.1 0;have HU:=yH (And.intro hu hz);clear hu hs hz))
    (try simp only[Exit.inBlock,Exit.then])
    refine bodyPost_ret (ret_word rfl (heap_set_one HU.out.2.1 _) rfl) rfl ?_;exact⟨p,k,rfl,HU.out.1,HU.out.2.2 _⟩
theorem pname_any {w0 w:World} {X:Nat} {S:PS} (h:Pr w0 w X S):
    Calls Tryz.prog 181 #[.pointer (some ⟨X,0,none⟩)] w fun e w'=>e= .returned (.string (T S.name.1))∧PStep w0 w w' X S.name.2:=by
  have HI:=yH (pisName_any h);have HP:=yH h;clear h;unfold PS.name;obtain⟨S1,hS1⟩:∃S1,S.want S.isName=S1:=⟨_,rfl⟩;have HS1:=yH hS1;rw[hS1];clear hS1
  cases hi:S.isName with
  |true=>
    rw[hi]at HI HS1;have HS:=yH (show S=S1 from by have:=HS1.out;unfold PS.want at this;rwa [if_pos rfl]at this);clear hi;go_enter Tryz.func181,Tryz.ntmps181
    go_wp2_with (first
      |(go_at_call 179;refine HI.out.mono ?_;rintro en w1 ⟨rfl,hb1⟩;have HB1:=yH (And.intro hb1 (HP.out.new hb1));clear hb1;rw[HS.out]at HB1)
      |(go_at_call 105;refine(ptake_any HB1.out.2).mono ?_;rintro en w2 ⟨p,k,rfl,hu,hs⟩;have HC:=yH (text_any hs.1.below _ p k hu);have HS2:=yH hs;clear hu hs)
      |(go_at_call 104;refine HC.out.mono ?_;rintro en w3 ⟨rfl,hb3⟩;have HB3:=yH hb3;clear hb3))
    go_ret;exact⟨rfl,PStep.ahead HB1.out.1 (HS2.out.new HB3.out)⟩
  |false=>
    rw[hi]at HI HS1;have HS:=yH (show S.fail 2=S1 from by have:=HS1.out;unfold PS.want at this;rwa [if_neg (by decide)]at this);clear hi;go_enter Tryz.func181,Tryz.ntmps181
    go_wp2_with (first
      |(go_at_call 179;refine HI.out.mono ?_;rintro en w1 ⟨rfl,hb1⟩;have HB1:=yH (And.intro hb1 (HP.out.new hb1));clear hb1)
      |(go_at_call 46;refine(pfail_any HB1.out.2 2 (by decide)).mono ?_;rintro en w4 ⟨rfl,hs⟩;rw[HS.out]at hs;have HS4:=yH hs;clear hs)
      |(go_at_call 105;refine(ptake_any HS4.out.1).mono ?_;rintro en w2 ⟨p,k,rfl,hu,hs⟩;have HC:=yH (text_any hs.1.below _ p k hu);have HS2:=yH hs;clear hu hs)
      |(go_at_call 104;refine HC.out.mono ?_;rintro en w3 ⟨rfl,hb3⟩;have HB3:=yH hb3;clear hb3))
    go_ret;exact⟨rfl,PStep.ahead HB1.out.1 (HS4.out.trans (HS2.out.new HB3.out))⟩
def psLen (w:World) (X:Nat):Nat:=match w.cell? ⟨X,0,none⟩with
  |some (.slice _ n _)=>n
  |_=>0
theorem Pr.len {w0 w:World} {X:Nat} {S:PS} (h:Pr w0 w X S):psLen w X=S.ts.length:=by
  obtain⟨G,o,c,h⟩:=h;have c0:w.cell? ⟨X,0,none⟩=some (.slice (some ⟨G,o,none⟩) S.ts.length c):=(by rw[cell_plain h.head];rfl);unfold psLen;rw[c0]
theorem plines_any {w0 w:World} {X:Nat} {S:PS} (h:Pr w0 w X S):
    Calls Tryz.prog 76 #[.pointer (some ⟨X,0,none⟩)] w fun e w'=>e= .returned (.tuple #[])∧PStep w0 w w' X S.lines:=by
  have HP:=yH h;clear h;go_enter Tryz.func76,Tryz.ntmps76;go_wp2_with fail
  go_loopw [] (fun wr=> ∃f S',PStep w0 w wr X S'∧linesL f S'=S.lines∧S'.ts.length≤f) (fun wr=>psLen wr X)
  case atStart=>exact⟨S.ts.length,S,PStep.refl HP.out,rfl,Nat.le_refl _⟩
  case round=>
    obtain⟨f,S',hs,hm,hf⟩:=hrel;have hpos:=hs.1.good.pos;obtain⟨f,rfl⟩:∃g,f=g+1:=⟨f-1,by omega⟩;have HT:=yH (ptakes_any hs.1 [10]);have HS:=yH (And.intro hs (And.intro hm hf));clear hs hm hf hpos;unfold PS.takes at HT
    cases hi:S'.is [10]with
    |true=>
      rw[hi,if_pos rfl]at HT;have HI:=yH hi;clear hi
      go_wp2_with (go_at_call 102;(with_reducible refine HT.out.mono ?_);rintro en w1 ⟨rfl,hs1⟩;have HS1:=yH hs1;clear hs1)
      go_roundw
      case rel=>exact⟨f,_,HS.out.1.trans HS1.out,by rw[←HS.out.2.1,linesL,if_pos HI.out],by have:=take_lt HS.out.1.1.good (is_ne HS.out.1.1.good (by decide) HI.out);have:=HS.out.2.2;omega⟩
      case measure=>rw[HS1.out.1.len,HS.out.1.1.len];exact take_lt HS.out.1.1.good (is_ne HS.out.1.1.good (by decide) HI.out)
    |false=>
      rw[hi,if_neg (by decide)]at HT;have HI:=yH hi;clear hi
      go_wp2_with (go_at_call 102;(with_reducible refine HT.out.mono ?_);rintro en w1 ⟨rfl,hs1⟩;have HS1:=yH hs1;clear hs1)
      go_end0
      refine⟨rfl,?_⟩;rw[←HS.out.2.1,linesL,if_neg (by rw[HI.out];decide)];exact HS.out.1.trans HS1.out
set_option maxRecDepth 4000 in
theorem psep_any {w0 w:World} {X:Nat} {S:PS} (h:Pr w0 w X S):
    Calls Tryz.prog 78 #[.pointer (some ⟨X,0,none⟩)] w fun e w'=>e= .returned (.bool S.sep.1)∧PStep w0 w w' X S.sep.2:=by
  have HA:=yH (ptakes_any h [59]);clear h;unfold PS.takes at HA;unfold PS.sep
  cases h1:S.is [59]with
  |true=>
    rw[h1,if_pos rfl]at HA;dsimp only at HA;clear h1;go_enter Tryz.func78,Tryz.ntmps78
    go_wp2_with (first
      |(go_at_call 102;(with_reducible refine HA.out.mono ?_);rintro en w1 ⟨rfl,hs1⟩;have HS1:=yH hs1;clear hs1)
      |(go_at_call 76;refine(plines_any HS1.out.1).mono ?_;rintro en w2 ⟨rfl,hs2⟩;have HS2:=yH hs2;clear hs2))
    go_ret;exact⟨rfl,HS1.out.trans HS2.out⟩
  |false=>
    rw[h1,if_neg (by decide)]at HA;dsimp only at HA;clear h1;have HT:=yH (show ∀W,Pr w0 W X S→_ from fun W hW=>by have:=ptakes_any hW [10];unfold PS.takes at this;exact this)
    cases h2:S.is [10]with
    |true=>
      rw[h2,if_pos rfl]at HT;dsimp only at HT;clear h2;go_enter Tryz.func78,Tryz.ntmps78
      go_wp2_with (first
        |(go_at_call 102;(with_reducible refine HA.out.mono ?_);rintro en w1 ⟨rfl,hs1⟩;have HS1:=yH hs1;have HP1:=yH hs1.1;clear hs1)
        |(go_at_call 102;(with_reducible refine(HT.out _ HP1.out).mono ?_);rintro en w3 ⟨rfl,hs1⟩;have HS3:=yH hs1;clear hs1)
        |(go_at_call 76;refine(plines_any HS3.out.1).mono ?_;rintro en w2 ⟨rfl,hs2⟩;have HS2:=yH hs2;clear hs2))
      go_ret;exact⟨rfl,HS1.out.trans (HS3.out.trans HS2.out)⟩
    |false=>
      rw[h2,if_neg (by decide)]at HT;dsimp only at HT;clear h2;go_enter Tryz.func78,Tryz.ntmps78
      go_wp2_with (first
        |(go_at_call 102;(with_reducible refine HA.out.mono ?_);rintro en w1 ⟨rfl,hs1⟩;have HS1:=yH hs1;have HP1:=yH hs1.1;clear hs1)
        |(go_at_call 102;(with_reducible refine(HT.out _ HP1.out).mono ?_);rintro en w3 ⟨rfl,hs1⟩;have HS3:=yH hs1;clear hs1))
      go_ret;exact⟨rfl,HS1.out.trans HS3.out⟩
set_option maxRecDepth 4000 in
theorem pisRedir_any {w0 w:World} {X:Nat} {S:PS} (h:Pr w0 w X S):
    Calls Tryz.prog 158 #[.pointer (some ⟨X,0,none⟩)] w fun e w'=>e= .returned (.bool S.isRedir)∧Below w.heap.size w w':=by
  have HP:=yH h;have HA:=yH (fun W hW=>pis_any (w0:=w0) (w:=W) (X:=X) (S:=S) hW [60]);have HB:=yH (fun W hW=>pis_any (w0:=w0) (w:=W) (X:=X) (S:=S) hW [62]);have HC:=yH (fun W hW=>pis_any (w0:=w0) (w:=W) (X:=X) (S:=S) hW [62,62]);have HI:=yH (show S.isRedir=(S.is [60]||(S.is [62]||S.is [62,62]))from rfl);clear h;obtain⟨B,hB⟩:∃B,S.isRedir=B:=⟨_,rfl⟩;rw[hB]at HI ⊢;clear hB
  cases h1:S.is [60]with
  |true=>
    rw[h1]at HA HI;clear h1;go_enter Tryz.func158,Tryz.ntmps158
    go_wp2_with (go_at_call 129;(with_reducible refine(HA.out _ HP.out).mono ?_);rintro en w1 ⟨rfl,hb1⟩;have HB1:=yH hb1;clear hb1)
    go_ret;exact⟨ret_bool (by rw[HI.out];rfl),HB1.out⟩
  |false=>
    rw[h1]at HA HI;clear h1
    cases h2:S.is [62]with
    |true=>
      rw[h2]at HB HI;clear h2;go_enter Tryz.func158,Tryz.ntmps158
      go_wp2_with (first
        |(go_at_call 129;(with_reducible refine(HA.out _ HP.out).mono ?_);rintro en w1 ⟨rfl,hb1⟩;have HB1:=yH hb1;clear hb1)
        |(go_at_call 129;(with_reducible refine(HB.out _ (HP.out.new HB1.out)).mono ?_);rintro en w2 ⟨rfl,hb2⟩;have HB2:=yH (HB1.out.trans (hb2.mono HB1.out.size));clear hb2))
      go_ret;exact⟨ret_bool (by rw[HI.out];rfl),HB2.out⟩
    |false=>
      rw[h2]at HB HI;clear h2;go_enter Tryz.func158,Tryz.ntmps158
      go_wp2_with (first
        |(go_at_call 129;(with_reducible refine(HA.out _ HP.out).mono ?_);rintro en w1 ⟨rfl,hb1⟩;have HB1:=yH hb1;clear hb1)
        |(go_at_call 129;(with_reducible refine(HB.out _ (HP.out.new HB1.out)).mono ?_);rintro en w2 ⟨rfl,hb2⟩;have HB2:=yH (HB1.out.trans (hb2.mono HB1.out.size));clear hb2)
        |(go_at_call 129;(with_reducible refine(HC.out _ (HP.out.new HB2.out)).mono ?_);rintro en w3 ⟨rfl,hb3⟩;have HB3:=yH (HB2.out.trans (hb3.mono HB2.out.size));clear hb3))
      go_ret;exact⟨ret_bool (by rw[HI.out];rfl),HB3.out⟩
theorem pbegin_any {w0 w:World} {X:Nat} {S:PS} (h:Pr w0 w X S) (d:Nat):
    Calls Tryz.prog 153 #[.pointer (some ⟨X,0,none⟩),.int .i64 (d:Int)] w fun e w'=>e= .returned (.tuple #[])∧PStep w0 w w' X (if 20≤d then S.fail 3 else S):=by
  have HP:=yH h;clear h
  by_cases hd:20≤d
  · rw[if_pos hd]
    have hdi:(20:Int)≤(d:Int):=(by omega);clear hd;go_enter Tryz.func153,Tryz.ntmps153
    go_wp2_with (go_at_call 46;refine(pfail_any HP.out 3 (by decide)).mono ?_;rintro en w1 ⟨rfl,hs⟩;have HS:=yH hs;clear hs)
    go_end0
    exact⟨rfl,HS.out⟩
  · rw[if_neg hd]
    have hdi:¬(20:Int)≤(d:Int):=(by omega);clear hd;go_enter Tryz.func153,Tryz.ntmps153;go_wp2_with fail
    go_end0
    exact⟨rfl,PStep.refl HP.out⟩
set_option maxHeartbeats 1000000 in
set_option maxRecDepth 4000 in
theorem pends_any {w0 w:World} {X:Nat} {S:PS} (h:Pr w0 w X S):
    Calls Tryz.prog 79 #[.pointer (some ⟨X,0,none⟩)] w fun e w'=>e= .returned (.bool S.ends)∧Below w.heap.size w w':=by
  have HN:=yH (fun W (hW:Pr w0 W X S)=>pnext_any hW);have HP:=yH h;have HPB:=yH h.below;have HI:=yH (show S.ends=(endsL.contains (textK S.hd)||S.hd.kind==3)from rfl);clear h;obtain⟨B,hB⟩:∃B,S.ends=B:=⟨_,rfl⟩;rw[hB]at HI ⊢;clear hB;obtain⟨t,ht⟩:∃t,S.hd=t:=⟨_,rfl⟩;rw[ht]at HN HI;clear ht;have HTX:=yH (fun W (hW:Below w0.heap.size w0 W) p k (hu:PsAt w0 (.slice p t.word.length k) t.word)=>text_any hW t p k hu);obtain⟨R,hR⟩:∃R,T (textK t)=R:=⟨_,rfl⟩;have hl:textK t=R.toList:=(by rw[←hR,Lib.toList_data]);rw[hR]at HTX;rw[hl]at HI;clear hR hl;unfold tkV at HN HTX;obtain⟨kd,hkd⟩:∃x,t.kind=x:=⟨_,rfl⟩;obtain⟨tx,htx⟩:∃x,T t.text=x:=⟨_,rfl⟩;obtain⟨wl,hwl⟩:∃x,t.word.length=x:=⟨_,rfl⟩;obtain⟨at_,hat⟩:∃x:Int,(t.at_:Int)=x:=⟨_,rfl⟩;rw[hkd]at HI;simp only[hkd,htx,hwl,hat]at HN HTX;clear hkd htx hwl hat;go_enter Tryz.func79,Tryz.ntmps79
  go_wp2_with (first
    |(go_at_call 45;(with_reducible refine(HN.out _ HP.out).mono ?_);rintro en w1 ⟨p,k,rfl,hu,hb1⟩;have HB1:=yH hb1;have HC:=yH (HTX.out _ (HPB.out.trans (hb1.mono HPB.out.size)) p k hu);clear hu hb1)
    |(go_at_call 104;refine HC.out.mono ?_;rintro en w2 ⟨rfl,hb2⟩;have HB2:=yH (HB1.out.trans (hb2.mono HB1.out.size));clear hb2)
    |(go_at_call 45;(with_reducible refine(HN.out _ (HP.out.new HB2.out)).mono ?_);rintro en w3 ⟨p2,k2,rfl, -,hb3⟩;have HB3:=yH (HB2.out.trans (hb3.mono HB2.out.size));have qf:=tok_f0 kd at_ tx p2 wl k2;clear hb3))
  all_goals go_ret
  all_goals first
    |exact⟨ret_bool (by rw[HI.out];simp_all [endsL]),HB2.out⟩
    |exact⟨ret_bool (by rw[HI.out];simp_all [endsL]),HB3.out⟩
theorem redir_info:(Tryz.prog.info? 103).map (·.size)=some 2:=by kernel_rfl
theorem ret_redir {fn:Func} {p:Tmp} (hf:fn.results= #[.cell p 103]) {tmps:Array Value} {k:Nat} {a b:Value} {w:World} {t:TypeId} {fr:Nat×Nat} (h:w.heap[k]? =some (.cells #[a,b] t fr)) (h2:tmps.getD p undef= .pointer (some ⟨k,0,none⟩)):
    (results fn tmps).run Tryz.prog w= .ok (.agg #[a,b]) w:=results_cell_row hf tmps w k t #[a,b] fr _ h2 h Tryz.underlying103 rfl redir_info
theorem predir_any {w0 w:World} {X:Nat} {S:PS} (h:Pr w0 w X S):
    Calls Tryz.prog 159 #[.pointer (some ⟨X,0,none⟩)] w fun e w'=> ∃p k,e= .returned (.agg #[.string (T (redirM S).1.1),.slice p (redirM S).1.2.length k])∧PsAt w0 (.slice p (redirM S).1.2.length k) (redirM S).1.2∧PStep w0 w w' X (redirM S).2:=by
  have HP:=yH (fun o=>h.new (below_new w o));have HX:=yH h.base;have HB:=yH (below_new w);have HZ:=yH (heap_alloc_new w);have HSZ:=yH (show ∀o,(w.alloc o).heap.size=w.heap.size+1 from fun o=>by simp);clear h;obtain⟨r,hr⟩:∃r,redirM S=r:=⟨_,rfl⟩;have HR:=yH (show S.hd.text=r.1.1∧S.take.word=(r.1.2,r.2)from by rw[←hr];exact⟨rfl,rfl⟩);rw[hr];clear hr;obtain⟨⟨op,ps⟩,S'⟩:=r;dsimp only at HR ⊢;obtain⟨t,ht⟩:∃t,S.hd=t:=⟨_,rfl⟩;rw[ht]at HR;obtain⟨kd,hkd⟩:∃x,t.kind=x:=⟨_,rfl⟩;obtain⟨wl,hwl⟩:∃x,t.word.length=x:=⟨_,rfl⟩;obtain⟨at_,hat⟩:∃x:Int,(t.at_:Int)=x:=⟨_,rfl⟩;obtain⟨ro,hro⟩:∃x,T op=x:=⟨_,rfl⟩;obtain⟨L,hL⟩:∃x,ps.length=x:=⟨_,rfl⟩
  have HTK:=yH (show ∀W,Pr w0 W X S→Calls Tryz.prog 105 #[.pointer (some ⟨X,0,none⟩)] W fun e w'=> ∃p k,e= .returned (.agg #[.int .i64 kd,.string ro,.slice p wl k,.int .i64 at_])∧PStep w0 W w' X S.take from fun W hW=>by
    refine(ptake_any hW).mono ?_;rintro e w' ⟨p,k,he, -,hs⟩;unfold tkV at he;rw[ht,hkd,hwl,hat,HR.out.1,hro]at he
    exact⟨p,k,he,hs⟩)
  have HW:=yH (show ∀W,Pr w0 W X S.take→Calls Tryz.prog 191 #[.pointer (some ⟨X,0,none⟩)] W fun e w'=> ∃p k,e= .returned (.agg #[.slice p L k])∧PsAt w0 (.slice p L k) ps∧PStep w0 W w' X S' from fun W hW=>by
    have:=pword_any hW;rw[HR.out.2]at this;rw[←hL]
    exact this)
  rw[hro,hL];clear ht hkd hwl hat hro hL;go_enter Tryz.func159,Tryz.ntmps159
  go_wp2_with (first
    |(go_at_call 105;refine(HTK.out _ (HP.out _)).mono ?_;rintro en w1 ⟨p,k,rfl,hs⟩;have qf:=tok_f1 kd at_ ro p wl k;have HS1:=yH (And.intro hs (And.intro (hs.2.heap (HZ.out _) (by have:=HX.out;omega)) (hs.2.size)));clear hs)
    |(go_at_call 191;refine(HW.out _ HS1.out.1.1).mono ?_;rintro en w2 ⟨p2,k2,rfl,hu,hs⟩;have hz:=hs.2.heap HS1.out.2.1 (by have:=HX.out;omega);have c0:=cell_plain hz 0;have c1:=cell_plain hz 1;have f0:=frozen_plain hz 0;have f1:=frozen_plain hz 1;have HS2:=yH (And.intro hs (And.intro hu hz));clear hs hu hz))
  (try simp only[Exit.inBlock,Exit.then])
  obtain⟨hs,hu,hz⟩:=HS2.out;refine bodyPost_ret (ret_redir rfl (heap_setCell_same _ w.heap.size 1 _ _ _ (heap_setCell_same w2 w.heap.size 0 _ _ _ hz)) rfl) rfl ?_;refine⟨p2,k2,rfl,hu,?_⟩;have hk:Kept (fun i=>i=w.heap.size) w2 ((w2.setCell ⟨w.heap.size,0,none⟩ (.string ro)).setCell ⟨w.heap.size,1,none⟩ (.slice p2 L k2)):=((Kept.refl (fun i=>i=w.heap.size) w2).setCell (p:=⟨w.heap.size,0,none⟩) (.inl rfl) _).setCell (p:=⟨w.heap.size,1,none⟩) (.inl rfl) _;refine⟨hs.1.kept hk (by have:=HX.out;omega) (fun i hi=>by have:=HX.out;omega),?_⟩;exact(((Kept.of_below (HB.out _)).on HS1.out.1.2).on hs.2).trans hk fun i hi=> .inr (by omega)
theorem PrO.hd1 {w0 w:World} {X G o c:Nat} {S:PS} (h:PrO w0 w X S G o c) (h2:2≤S.ts.length):∃p k,PsAt w0 (.slice p (S.ts.tail.headD tkEnd).word.length k) (S.ts.tail.headD tkEnd).word∧
    w.cell? ⟨G,o+4,none⟩=some (.int .i64 (S.ts.tail.headD tkEnd).kind)∧w.cell? ⟨G,o+4+1,none⟩=some (.string (T (S.ts.tail.headD tkEnd).text))∧w.cell? ⟨G,o+4+2,none⟩=some (.slice p (S.ts.tail.headD tkEnd).word.length k)∧w.cell? ⟨G,o+4+3,none⟩=some (.int .i64 ((S.ts.tail.headD tkEnd).at_:Int)):=by
  have h0:S.ts[1]? =some (S.ts.tail.headD tkEnd):=by
    obtain⟨ts,a,e⟩:=S
    match ts,h2 with
    |_::b::r,_=>rfl
  obtain⟨u,hu,ht, -⟩:=h.toks 1 _ h0;obtain⟨b,o',he,a0,a1,a2,a3⟩:=ht.below h.below;simp only[Option.some.injEq,Addr.mk.injEq,and_true]at he;obtain⟨rfl,rfl⟩:=he;obtain⟨p,k,rfl, -⟩:=hu.is;rw[Nat.one_mul]at a0 a1 a2 a3;exact⟨p,k,hu,a0,a1,a2,a3⟩
theorem nameT_nil:nameT []=false:=by decide+kernel
set_option maxHeartbeats 1000000 in
set_option maxRecDepth 4000 in
theorem pisFun_any {w0 w:World} {X:Nat} {S:PS} (h:Pr w0 w X S):
    Calls Tryz.prog 154 #[.pointer (some ⟨X,0,none⟩)] w fun e w'=>e= .returned (.bool S.isFun)∧Below w.heap.size w w':=by
  have HA:=yH (pisName_any h);have HN:=yH (fun W (hW:Pr w0 W X S)=>pnext_any hW);have HP:=yH h;have HPB:=yH h.below;have HI:=yH (show S.isFun=(S.isName&&(!reservedT (textK S.hd)&&textK (S.ts.tail.headD tkEnd)== [40]))from rfl)
  have HTW:=yH (show S.isName=true→2≤S.ts.length from fun hn=>two_of h.good fun h3=>by
    unfold PS.isName at hn;rw[h.good.tx3 h3,nameT_nil]at hn
    cases hn)
  clear h;obtain⟨B,hB⟩:∃B,S.isFun=B:=⟨_,rfl⟩;rw[hB]at HI ⊢;clear hB
  cases h1:S.isName with
  |false=>
    rw[h1]at HA HI;clear h1;go_enter Tryz.func154,Tryz.ntmps154
    go_wp2_with (go_at_call 179;refine HA.out.mono ?_;rintro en w1 ⟨rfl,hb1⟩;have HB1:=yH hb1;clear hb1)
    go_ret;exact⟨ret_bool (by rw[HI.out];rfl),HB1.out⟩
  |true=>
    rw[h1]at HA HI HTW;have HT2:=yH (HTW.out rfl);clear h1 HTW;obtain⟨t,ht⟩:∃t,S.hd=t:=⟨_,rfl⟩;rw[ht]at HN HI;clear ht;have HRE:=yH (fun W=>reserved_any (textK t) W);have HTX:=yH (fun W (hW:Below w0.heap.size w0 W) p k (hu:PsAt w0 (.slice p t.word.length k) t.word)=>text_any hW t p k hu)
    cases h2:reservedT (textK t)with
    |true=>
      rw[h2]at HRE HI;clear h2;go_enter Tryz.func154,Tryz.ntmps154
      go_wp2_with (first
        |(go_at_call 179;refine HA.out.mono ?_;rintro en w1 ⟨rfl,hb1⟩;have HB1:=yH hb1;clear hb1)
        |(go_at_call 45;refine(HN.out _ (HP.out.new HB1.out)).mono ?_;rintro en w2 ⟨p,k,rfl,hu,hb2⟩;have HB2:=yH (HB1.out.trans (hb2.mono HB1.out.size));have HC:=yH (HTX.out _ (HPB.out.trans (HB2.out.mono HPB.out.size)) p k hu);clear hu hb2)
        |(go_at_call 104;refine HC.out.mono ?_;rintro en w3 ⟨rfl,hb3⟩;have HB3:=yH (HB2.out.trans (hb3.mono HB2.out.size));clear hb3)
        |(go_at_call 180;refine(HRE.out _).mono ?_;rintro en w4 ⟨rfl,rfl⟩))
      go_ret;exact⟨ret_bool (by rw[HI.out];rfl),HB3.out⟩
    |false=>
      rw[h2]at HRE HI;clear h2;obtain⟨G,o,c,hO⟩:=HP.out;have HO:=yH hO;obtain⟨p1,k1,hu1, -⟩:=hO.hd1 HT2.out;have HCELL:=yH (show ∀W,Below w.heap.size w W→W.cell? ⟨X,0,none⟩=some (.slice (some ⟨G,o,none⟩) S.ts.length c)∧Below w0.heap.size w0 W from fun W hb=>⟨by rw[cell_plain (HO.out.kept0 hb).head];rfl,(HO.out.kept0 hb).below⟩);have HTOK:=yH (show ∀W,Below w.heap.size w W→_ from fun W hb=>(HO.out.kept0 hb).hd1 HT2.out);clear hO hu1;obtain⟨t1,ht1⟩:∃t1,S.ts.tail.headD tkEnd=t1:=⟨_,rfl⟩;rw[ht1]at HI HTOK;clear ht1 p1 k1;obtain⟨N,hN⟩:∃N,S.ts.length=N:=⟨_,rfl⟩;rw[hN]at HCELL HT2;have hN1:(1:Int)<(N:Int):=(by have:=HT2.out;omega);clear hN;have HTX1:=yH (fun W (hW:Below w0.heap.size w0 W) p k (hu:PsAt w0 (.slice p t1.word.length k) t1.word)=>text_any hW t1 p k hu);obtain⟨R,hR⟩:∃R,T (textK t1)=R:=⟨_,rfl⟩;have hl:textK t1=R.toList:=(by rw[←hR,Lib.toList_data]);rw[hR]at HTX1;rw[hl]at HI;clear hR hl;unfold tkV at HTX1;obtain⟨kd,hkd⟩:∃x,t1.kind=x:=⟨_,rfl⟩;obtain⟨tx,htx⟩:∃x,T t1.text=x:=⟨_,rfl⟩;obtain⟨wl,hwl⟩:∃x,t1.word.length=x:=⟨_,rfl⟩;obtain⟨at_,hat⟩:∃x:Int,(t1.at_:Int)=x:=⟨_,rfl⟩;simp only[hkd,htx,hwl,hat]at HTX1 HTOK;clear hkd htx hwl hat;go_enter Tryz.func154,Tryz.ntmps154
      go_wp2_with (first
        |(go_at_call 179;refine HA.out.mono ?_;rintro en w1 ⟨rfl,hb1⟩;have HB1:=yH hb1;clear hb1)
        |(go_at_call 45;refine(HN.out _ (HP.out.new HB1.out)).mono ?_;rintro en w2 ⟨p,k,rfl,hu,hb2⟩;have HB2:=yH (HB1.out.trans (hb2.mono HB1.out.size));have HC:=yH (HTX.out _ (HPB.out.trans (HB2.out.mono HPB.out.size)) p k hu);clear hu hb2)
        |(go_at_call 104;(with_reducible refine HC.out.mono ?_);rintro en w3 ⟨rfl,hb3⟩;have HB3:=yH (HB2.out.trans (hb3.mono HB2.out.size));clear hb3)
        |(go_at_call 180;refine(HRE.out _).mono ?_;rintro en w4 ⟨rfl,rfl⟩;obtain⟨c0,hbz⟩:=HCELL.out _ HB3.out;obtain⟨p1,k1,hu1,a0,a1,a2,a3⟩:=HTOK.out _ HB3.out;have HC1:=yH (HTX1.out _ hbz p1 k1 hu1);clear hbz hu1)
        |(go_at_call 104;(with_reducible refine HC1.out.mono ?_);rintro en w5 ⟨rfl,hb5⟩;have HB5:=yH (HB3.out.trans (hb5.mono HB3.out.size));clear hb5))
      go_ret;exact⟨ret_bool (by rw[HI.out];simp),HB5.out⟩
def ofC (o:ByteArray) (v:Value):List Value:= [.string o,.string ⟨#[]⟩,.slice none 0 0,.slice none 0 0,.slice none 0 0,.slice none 0 0,.slice none 0 0,v]
def zeroN:List Value:=ofC ⟨#[]⟩ (.slice none 0 0)
theorem ofC_cel (o:ByteArray) (p:Option Addr) (n c:Nat):Cel 8 (ofC o (.slice p n c)):=⟨rfl,fun v hv=>by
  simp only[ofC,List.mem_cons,List.not_mem_nil,or_false]at hv
  rcases hv with rfl|rfl|rfl|rfl|rfl|rfl|rfl|rfl<;>rfl⟩
theorem ndc_of (w:World) (op:List UInt8):NdC w { nd0 with op:=op } [txt op,txt [],.slice none 0 0,.slice none 0 0,.slice none 0 0,.slice none 0 0,.slice none 0 0]:=
  ⟨rfl,_,_,_,_,rfl,SlAt.nil _ _ _ _,SlAt.nil _ _ _ _,SlAt.nil _ _ _ _,SlAt.nil _ _ _ _⟩
theorem of_tree {w0 w:World} {B:Nat} {v:Value} {css:List (List Value)} {l:List Tr} {F:Nat→Prop} (h:Kids w0 w B v css l F) (hm:l.length≤maxLen) (op:List UInt8):NewAt w0 w B fun W=>TrC W (ofC (T op) v) (trOf op l):=
  h.tree hm (NewAt.of0 fun W _=>ndc_of W op)
theorem of_stays {w0 w:World} {B:Nat} {v:Value} {css:List (List Value)} {l:List Tr} {F:Nat→Prop} (h:Kids w0 w B v css l F) (hm:l.length≤maxLen) (op:List UInt8):Stays w0 w (fun k=>F k∨v.ownBlock=some k) fun W=>TrC W (ofC (T op) v) (trOf op l):=
  (h.stays hm (Stays.of0 fun W _=>ndc_of W op)).mono fun _ hk=>hk.elim (fun h=>h.elim) id
theorem of_any (o:ByteArray) (p:Option Addr) (n c:Nat) (w:World):
    Calls Tryz.prog 106 #[.string o,.slice p n c] w fun e w'=>e= .returned (.agg (ofC o (.slice p n c)).toArray)∧Below w.heap.size w w':=by
  have HB:=yH (below_new w);go_enter Tryz.func106,Tryz.ntmps106;go_wp2_with fail
  (try simp only[Exit.inBlock,Exit.then])
  refine bodyPost_ret (ret_tree (cs:=ofC o (.slice p n c)) rfl (heap_alloc_new w _) (ofC_cel _ _ _ _) rfl) rfl ?_;exact⟨rfl,HB.out _⟩
theorem several_one (op:List UInt8) (t:Tr):several op [t]=t:=rfl
theorem several_more (op:List UInt8) (l:List Tr) (h:l.length≠1):several op l=trOf op l:=by
  match l,h with
  | [],_=>rfl
  | [_],h=>exact absurd rfl h
  |_::_::_,_=>rfl
set_option maxHeartbeats 1000000 in
theorem several_any {w0 w:World} {B:Nat} {css:List (List Value)} {l:List Tr} {F:Nat→Prop} {p:Option Addr} {c:Nat} (h:Kids w0 w B (.slice p l.length c) css l F) (hm:l.length≤maxLen) (op:List UInt8):
    Calls Tryz.prog 80 #[.string (T op),.slice p l.length c] w fun e w'=> ∃cs,e= .returned (.agg cs.toArray)∧Cel 8 cs∧NewAt w0 w' B (fun W=>TrC W cs (several op l))∧Below w.heap.size w w':=by
  have HB:=yH (below_new w);obtain⟨o,ho⟩:∃o,T op=o:=⟨_,rfl⟩
  by_cases h1:l.length=1
  · obtain⟨t,rfl⟩:=List.length_eq_one_iff.1 h1
    obtain⟨cs,rfl⟩:=List.length_eq_one_iff.1 (h.len.trans h1);obtain⟨g,c',hv,hc⟩:=h.spot (k:=0) rfl;simp only[Value.slice.injEq,true_and]at hv;obtain⟨rfl,rfl⟩:=hv;have hcel:Cel 8 cs:=h.each cs (by simp);have hnew:NewAt w0 w B fun W=>TrC W cs t:=⟨F,fun k hk=>⟨(h.far k hk).1,(h.far k hk).2.1⟩,h.sub 0 cs t rfl rfl⟩;rw[several_one,ho]
    have HR:=yH (show ∀o,(w.alloc o).rangeAt g 0 cs from fun o j v hv=>by
      have:=hc j v hv;rw[Nat.zero_mul]at this
      exact cell_alloc this o)
    have HN:=yH hnew;have HC:=yH hcel;show Calls _ _ #[.string o,.slice (some ⟨g,0,none⟩) 1 c] _ _;clear h hm h1 ho hc hcel hnew;go_enter Tryz.func80,Tryz.ntmps80
    go_wp2_with (first
      |(refine wpList_load_mid (by rfl) 56 (.tmp 9) (by rfl) g 0 (by rfl) cs _ (HR.out _) Tryz.underlying56 rfl (by rw[node_info,HC.out.1]) ?_)
      |(refine wpList_store_row (by rfl) 56 (.tmp 4) (.tmp 10) (by rfl) w.heap.size cs.toArray (by rfl) (by rfl) 56 zeroN.toArray (heap_alloc_new w _) (by rw[node_info];simp[HC.out.1]) (by simp[HC.out.1,zeroN,ofC]) (all_oneCell_toArray HC.out.2) ?_))
    (try simp only[Exit.inBlock,Exit.then])
    have hz:=setRow_heap (w.alloc (.cells zeroN.toArray 56)) w.heap.size zeroN.toArray cs.toArray 56 (0,0) (heap_alloc_new w _);refine bodyPost_ret (ret_tree rfl hz HC.out rfl) rfl ?_;have hk:=kept_row (HB.out (.cells zeroN.toArray 56)) (Nat.le_refl w.heap.size) cs.toArray;refine⟨cs,rfl,HC.out,HN.out.kept (D:=fun i=>w.heap.size≤i) hk (fun k _ hk=>by omega),⟨hk.os,hk.tape,hk.output,hk.size,fun k hk'=>hk.block k hk' (by omega)⟩⟩
  · have HO:=yH (of_any o p l.length c)
    have HT:=yH (of_tree h hm op);rw[several_more op l h1,ho]at*;obtain⟨N,hN⟩:∃N,l.length=N:=⟨_,rfl⟩;rw[hN]at HO HT h1 ⊢
    have hn:((N:Int)==1)=false:=by
      have:¬(N:Int)=1:=by omega
      simpa using this
    clear h hm ho hN h1;go_enter Tryz.func80,Tryz.ntmps80
    go_wp2_with (first
      |(go_at_call 106;refine(HO.out _).mono ?_;rintro en w1 ⟨rfl,hb1⟩;have hz:=(hb1.block w.heap.size (by simp)).trans (heap_alloc_new w _);have HB1:=yH (And.intro ((HB.out _).trans (hb1.mono (HB.out _).size)) hz);clear hb1 hz)
      |(refine wpList_store_row (by rfl) 56 (.tmp 4) (.tmp 13) (by rfl) w.heap.size (ofC o (.slice p N c)).toArray (by rfl) (by rfl) 56 zeroN.toArray HB1.out.2 (by rw[node_info];rfl) rfl (all_oneCell_toArray (ofC_cel _ _ _ _).2) ?_))
    (try simp only[Exit.inBlock,Exit.then])
    have hz:=setRow_heap w1 w.heap.size zeroN.toArray (ofC o (.slice p N c)).toArray 56 (0,0) HB1.out.2;refine bodyPost_ret (ret_tree rfl hz (ofC_cel _ _ _ _) rfl) rfl ?_;have hk:=kept_row HB1.out.1 (Nat.le_refl w.heap.size) (ofC o (.slice p N c)).toArray;refine⟨_,rfl,ofC_cel _ _ _ _,HT.out.kept (D:=fun i=>w.heap.size≤i) hk (fun k _ hk=>by omega),⟨hk.os,hk.tape,hk.output,hk.size,fun k hk'=>hk.block k hk' (by omega)⟩⟩
end Go.Proofs.YtakceggnadagmaaGreatDoor
