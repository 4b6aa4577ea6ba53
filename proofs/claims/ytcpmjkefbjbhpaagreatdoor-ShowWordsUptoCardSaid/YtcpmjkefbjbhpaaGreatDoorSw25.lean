/-
  Proved: contracts of functions, plain facts. Conditions: as each says.
-/
import Derived.Test.YtcpmjkefbjbhpaaGreatDoorSw24
import Derived.Deep.RegionHeld
namespace Go.Proofs.YtcpmjkefbjbhpaaGreatDoor
open Go Go.RowKit GlyphMath LexMath TreeMath ParseMath
def tkN (t:Tk) (p:Option Addr) (c:Nat) (a:Int):Value:= .agg #[.int .i64 t.kind,.string (T t.text),.slice p t.word.length c,.int .i64 a]
theorem qnow_any {w0 w:World} {X:Nat} {S:PS} (h:Rr w0 w X S):
    Calls Tryz.prog 29 #[.pointer (some ⟨X,0,none⟩)] w fun e w'=> ∃p k a,e= .returned (tkN S.hd p k a)∧(PsAt w0 (.slice p S.hd.word.length k) S.hd.word∧S.hd.word.length≤k)∧Below w.heap.size w w':=by
  have hdead:=h.dead;have hgood:=h.good;obtain⟨L,G,c,i,e,a,h,rfl⟩:=h;have HBW:=yH (below_new w);have c0:w.cell? ⟨X,0,none⟩=some (.slice (some ⟨G,0,none⟩) L.length c):=(by rw[cell_plain h.head];rfl);have c1:w.cell? ⟨X,1,none⟩=some (.int .i64 (i:Int)):=(by rw[cell_plain h.head];rfl);have c2:w.cell? ⟨X,2,none⟩=some (.int .i64 (e:Int)):=(by rw[cell_plain h.head];rfl);unfold tkN
  by_cases he:e=0
  · subst he
    obtain⟨p,k,hu,a0,a1,a2,a3⟩:=h.hd;have HU:=yH hu;have hi0:(0:Int)≤(i:Int):=(by omega);have hi1:(i:Int)<(L.length:Int):=(by have:=h.lt;omega);obtain⟨N,hN⟩:∃N,L.length=N:=⟨_,rfl⟩;rw[hN]at c0 hi1;obtain⟨t,ht⟩:∃t,(stR L i 0 a).hd=t:=⟨_,rfl⟩;rw[ht]at a0 a1 a2 a3 HU ⊢;obtain⟨kd,hkd⟩:∃x,t.kind=x:=⟨_,rfl⟩;obtain⟨tx,htx⟩:∃x,T t.text=x:=⟨_,rfl⟩;obtain⟨wl,hwl⟩:∃x,t.word.length=x:=⟨_,rfl⟩;obtain⟨at_,hat⟩:∃x:Int,(t.at_:Int)=x:=⟨_,rfl⟩;rw[hkd]at a0 ⊢;rw[htx]at a1 ⊢;rw[hwl]at a2 HU ⊢;rw[hat]at a3;rw[show ((0:Nat):Int)=0 from rfl]at c2;have d0:=cell_alloc c0;have d1:=cell_alloc c1;have d2:=cell_alloc c2;have e0:=cell_alloc a0;have e1:=cell_alloc a1;have e2:=cell_alloc a2;have e3:=cell_alloc a3;clear h hdead hgood hN ht hkd htx hwl hat hu c0 c1 c2 a0 a1 a2 a3;go_enter Tryz.func29,Tryz.ntmps29;go_wp2_with fail
    go_region
    (try simp only[Exit.then])
    go_wp2_with fail
    (try simp only[Exit.inBlock,Exit.then])
    refine bodyPost_ret (ret_tok rfl (heap_alloc_new w _) rfl) rfl ?_;exact⟨p,k,at_,rfl,HU.out,below_drewW (HBW.out _)⟩
  · have hs:(stR L i e a).err=e:=by unfold stR;rw[if_neg he]
    have hk:=Dead.kind hgood (hdead (by rw[hs];exact he))
    have hz:((e:Int) !=0)=true:=by
      have:¬(e:Int)=0:=by omega
      simpa using this
    have hE:(stR L i e a).hd.text= []∧(stR L i e a).hd.word= []:=by
      rcases hgood.hd with ⟨h1, -⟩|⟨h1, -⟩
      · exact⟨h1.text,h1.word⟩
      · exact absurd hk h1.ne
    obtain⟨t,ht⟩:∃t,(stR L i e a).hd=t:=⟨_,rfl⟩;rw[ht]at hk hE ⊢;rw[hk,hE.1,hE.2];have d2:=cell_alloc c2;clear h hdead hgood ht hk hE c0 c1 c2 hs he;go_enter Tryz.func29,Tryz.ntmps29;go_wp2_with fail
    (try simp only[Exit.inBlock,Exit.then])
    refine bodyPost_ret (ret_tok rfl (heap_alloc_new w _) rfl) rfl ?_;exact⟨none,0,0,rfl,⟨PsAt.nil _ _,Nat.le_refl _⟩,HBW.out _⟩
set_option maxHeartbeats 1000000 in
set_option maxRecDepth 100000 in
theorem qfail_any {w0 w:World} {X:Nat} {S:PS} (h:Rr w0 w X S) (e:Nat) (he:e≤3) (hne:e≠0):
    Calls Tryz.prog 30 #[.pointer (some ⟨X,0,none⟩),.int .i64 (e:Int)] w fun en w'=>en= .returned (.tuple #[])∧QStep w0 w w' X (S.fail e):=by
  have HP:=yH h;have hdead:=h.dead;have hgood:=h.good;obtain⟨L,G,c,i,er,a,h,rfl⟩:=h;have HO:=yH h;have c0:w.cell? ⟨X,0,none⟩=some (.slice (some ⟨G,0,none⟩) L.length c):=(by rw[cell_plain h.head];rfl);have c1:w.cell? ⟨X,1,none⟩=some (.int .i64 (i:Int)):=(by rw[cell_plain h.head];rfl);have c2:w.cell? ⟨X,2,none⟩=some (.int .i64 (er:Int)):=(by rw[cell_plain h.head];rfl);have c3:w.cell? ⟨X,3,none⟩=some (.int .i64 (a:Int)):=(by rw[cell_plain h.head];rfl)
  by_cases hz:er=0
  · subst hz
    obtain⟨p,k, -, -, -, -,a3⟩:=h.hd;have f2:=frozen_plain h.head 2;have f3:=frozen_plain h.head 3;have hi0:(0:Int)≤(i:Int):=(by omega);have hi1:(i:Int)<(L.length:Int):=(by have:=h.lt;omega);obtain⟨N,hN⟩:∃N,L.length=N:=⟨_,rfl⟩;have HN:=yH hN;rw[hN]at c0 hi1;obtain⟨at_,hat⟩:∃x,(stR L i 0 a).hd.at_=x:=⟨_,rfl⟩;have HAT:=yH hat;rw[hat]at a3;have HA0:=yH (show at_≤2000 from by rw[←hat];exact hgood.at0);have HE:=yH (And.intro he hne);rw[show ((0:Nat):Int)=0 from rfl]at c2;clear h hdead hgood hN hat he hne;go_enter Tryz.func30,Tryz.ntmps30;go_wp2_with fail
    go_region
    all_goals go_end0
    have h0:=heap_setCell_same _ X 3 _ _ (.int .i64 (at_:Int)) (heap_setCell_same w X 2 _ _ (.int .i64 (e:Int)) HO.out.head);have hx:=HO.out.base
    have ee:(stR L i 0 a).fail e=stR L i e at_:=by
      have hl:=HO.out.lt;unfold PS.fail;rw[HAT.out,show(stR L i 0 a).err=0 from rfl,show(stR L i 0 a).ts=L.drop i from rfl,if_pos rfl,if_pos rfl];unfold stR;rw[if_neg HE.out.2,List.length_drop,List.drop_drop,show i+(L.length-i-1)=L.length-1 by omega]
    rw[ee];refine⟨rfl,⟨L,G,c,i,e,at_,⟨below_drewW ((HO.out.below.setCell (p:=⟨X,2,none⟩) hx _).setCell (p:=⟨X,3,none⟩) hx _),hx,?_,HO.out.lt,HO.out.toks,HO.out.good,HA0.out,HE.out.1⟩,rfl⟩,?_⟩
    · exact(show _=_ from h0).trans (by simp)
    · exact(((Kept.refl (fun k=>k=X) w).setCell (p:=⟨X,2,none⟩) (.inl rfl) _).setCell (p:=⟨X,3,none⟩) (.inl rfl) _).drew
  · have hs:(stR L i er a).err=er:=by unfold stR;rw[if_neg hz]
    have hzi:((er:Int)==0)=false:=by
      have:¬(er:Int)=0:=by omega
      simpa using this
    rw[fail_dead (by rw[hs];exact hz) (hdead (by rw[hs];exact hz))];clear h hdead hgood hz hs;go_enter Tryz.func30,Tryz.ntmps30;go_wp2_with fail
    go_end0
    exact⟨rfl,QStep.refl HP.out⟩
set_option maxRecDepth 4000 in
theorem qsign_any {w0 w:World} {X:Nat} {S:PS} (h:Rr w0 w X S) (s:List UInt8):
    Calls Tryz.prog 66 #[.pointer (some ⟨X,0,none⟩),.string (T s)] w fun e w'=>e= .returned (.bool (S.sg s))∧Below w.heap.size w w':=by
  have HN:=yH (fun W (hW:Rr w0 W X S)=>qnow_any hW);have HP:=yH h;have HI:=yH (show S.sg s=(S.hd.kind==2&&S.hd.text==s)from rfl);clear h;obtain⟨B,hB⟩:∃B,S.sg s=B:=⟨_,rfl⟩;rw[hB]at HI ⊢;clear hB;obtain⟨t,ht⟩:∃t,S.hd=t:=⟨_,rfl⟩;rw[ht]at HN HI;clear ht;unfold tkN at HN;obtain⟨kd,hkd⟩:∃x,t.kind=x:=⟨_,rfl⟩;obtain⟨tx,htx⟩:∃x,T t.text=x:=⟨_,rfl⟩;obtain⟨wl,hwl⟩:∃x,t.word.length=x:=⟨_,rfl⟩;obtain⟨s2,hs2⟩:∃R,T s=R:=⟨_,rfl⟩;have hl:(t.text==s)=(tx.toList==s2.toList):=(by rw[←htx,←hs2,Lib.toList_data,Lib.toList_data]);rw[hl,hkd]at HI;simp only[hkd,htx,hwl]at HN;rw[hs2];clear hkd htx hwl hs2 hl
  by_cases hk:kd=2
  · subst hk
    have HE:=yH (show B=(tx.toList==s2.toList)from by rw[HI.out];simp);go_enter Tryz.func66,Tryz.ntmps66
    go_wp2_with (first
      |(go_at_call 29;(with_reducible refine(HN.out _ HP.out).mono ?_);rintro en w1 ⟨p,k,a,rfl, -,hb1⟩;have qf:=tok_f0 2 a tx p wl k;have HB1:=yH hb1;clear hb1)
      |(go_at_call 29;refine(HN.out _ (HP.out.new HB1.out)).mono ?_;rintro en w2 ⟨p2,k2,a2,rfl, -,hb2⟩;have qf2:=tok_f1 2 a2 tx p2 wl k2;have HB2:=yH (HB1.out.trans (hb2.mono HB1.out.size));clear hb2))
    go_ret;exact⟨ret_bool (by rw[HE.out]),HB2.out⟩
  · have hk2:(kd==2)=false:=by simpa using hk
    have HE:=yH (show B=false from by rw[HI.out,hk2];rfl);clear hk;go_enter Tryz.func66,Tryz.ntmps66
    go_wp2_with (go_at_call 29;(with_reducible refine(HN.out _ HP.out).mono ?_);rintro en w1 ⟨p,k,a,rfl, -,hb1⟩;have qf:=tok_f0 kd a tx p wl k;have HB1:=yH hb1;clear hb1)
    go_ret;exact⟨ret_bool (by rw[HE.out]),HB1.out⟩
theorem wrapI {i:Nat} (h:i≤100000):IntKind.i64.wrap ((i:Int)+1)=((i+1:Nat):Int):=by
  rw[show (i:Int)+1=((i+1:Nat):Int) by omega];exact IntWalk.i64_in _ ⟨by omega,by omega⟩
theorem RrO.next {w0 w:World} {X G c i a:Nat} {L:List Tk} (h:RrO w0 w X L G c i 0 a) (hk:(stR L i 0 a).hd.kind≠3):QStep w0 w (w.setCell ⟨X,1,none⟩ (.int .i64 ((i+1:Nat):Int))) X (stR L i 0 a).take:=by
  have hg:=stR_good h.good h.lt (e:=0) h.few;have h2:=two_of hg hk
  have hl:i+1<L.length:=by
    have:(stR L i 0 a).ts.length=L.length-i:=(by simp[stR]);omega
  have e:(stR L i 0 a).take=stR L (i+1) 0 a:=by
    unfold PS.take;rw[if_neg hk];simp[stR]
  rw[e];have hx:=h.base;refine⟨⟨L,G,c,i+1,0,a,⟨h.below.setCell hx _,hx,?_,hl,h.toks,h.good,h.few⟩,rfl⟩,(Kept.refl (fun k=>k=X) w).setCell (p:=⟨X,1,none⟩) (.inl rfl) _⟩;have:=heap_setCell_same w X 1 _ _ (.int .i64 ((i+1:Nat):Int)) h.head
  simpa using this
structure RrN (w0 w:World) (X:Nat) (S:PS) (i:Nat):Prop where
  cell:w.cell? ⟨X,1,none⟩=some (.int .i64 (i:Int))
  open_ : w.frozen? ⟨X, 1, none⟩ = false
  wrap:IntKind.i64.wrap ((i:Int)+1)=((i+1:Nat):Int)
  step:QStep w0 w (w.setCell ⟨X,1,none⟩ (.int .i64 ((i+1:Nat):Int))) X S.take
theorem Rr.next {w0 w:World} {X:Nat} {S:PS} (h:Rr w0 w X S) (hk:S.hd.kind≠3):∃i,RrN w0 w X S i:=by
  have hd:=h.dead;have hg:=h.good;obtain⟨L,G,c,i,e,a,h,rfl⟩:=h
  by_cases he:e=0
  · subst he
    have hfew:=h.good.few;have hlt:=h.lt;dsimp only at hfew;exact⟨i,by rw[cell_plain h.head];rfl,frozen_plain h.head 1,wrapI (by omega),h.next hk⟩
  · exfalso
    have hs:(stR L i e a).err=e:=(by unfold stR;rw[if_neg he]);exact hk (Dead.kind hg (hd (by rw[hs];exact he)))
theorem qeat_any {w0 w:World} {X:Nat} {S:PS} (h:Rr w0 w X S) {s:List UInt8} (hs:signsB.contains s=true):
    Calls Tryz.prog 113 #[.pointer (some ⟨X,0,none⟩),.string (T s)] w fun e w'=>e= .returned (.bool (S.takes s).1)∧QStep w0 w w' X (S.takes s).2:=by
  have HI:=yH (qsign_any h s);rw[sg_is h.good hs]at HI;have hne:S.is s=true→S.hd.kind≠3:=fun hi=>is_ne h.good (by rintro rfl;revert hs;decide) hi;have HP:=yH h;obtain⟨s2,hs2⟩:∃R,T s=R:=⟨_,rfl⟩;rw[hs2]at HI ⊢;unfold PS.takes
  cases hi:S.is s with
  |true=>
    rw[hi]at HI;have HK:=yH (hne hi);clear hi h hs hs2 hne;go_enter Tryz.func113,Tryz.ntmps113
    go_wp2_with (go_at_call 66;refine HI.out.mono ?_;rintro en w1 ⟨rfl,hb1⟩;obtain⟨i,hn⟩:=(HP.out.new hb1).next HK.out;have c1:=hn.cell;have f1:=hn.open_;have q1:=hn.wrap;have HN:=yH (QStep.ahead hb1 hn.step);clear hb1 hn)
    go_ret;exact⟨rfl,HN.out⟩
  |false=>
    rw[hi]at HI;clear hi h hs hs2 hne;go_enter Tryz.func113,Tryz.ntmps113
    go_wp2_with (go_at_call 66;refine HI.out.mono ?_;rintro en w1 ⟨rfl,hb1⟩;have HB1:=yH hb1;clear hb1)
    go_ret;exact⟨rfl,HP.out.new HB1.out,Kept.of_below HB1.out⟩
set_option maxRecDepth 4000 in
theorem qis_any {w0 w:World} {X:Nat} {S:PS} (h:Rr w0 w X S) {s:List UInt8} (hs:anyIn s metaB=false) (hn:s≠ []):
    Calls Tryz.prog 176 #[.pointer (some ⟨X,0,none⟩),.string (T s)] w fun e w'=>e= .returned (.bool (S.is s))∧Below w.heap.size w w':=by
  rw[←wd_is h.good hs hn];have HN:=yH (fun W (hW:Rr w0 W X S)=>qnow_any hW);have HP:=yH h;have HI:=yH (show S.wd s=(S.hd.kind==1&&plainT S.hd.word==some s)from rfl);clear h hs hn;obtain⟨B,hB⟩:∃B,S.wd s=B:=⟨_,rfl⟩;rw[hB]at HI ⊢;clear hB;obtain⟨t,ht⟩:∃t,S.hd=t:=⟨_,rfl⟩;rw[ht]at HN HI;clear ht;have HPL:=yH (fun W (hW:Below w0.heap.size w0 W) p k (hu:PsAt w0 (.slice p t.word.length k) t.word)=>rplain_any t.word _ W (hu.stays hW));unfold wordV at HPL;unfold tkN at HN;obtain⟨kd,hkd⟩:∃x,t.kind=x:=⟨_,rfl⟩;obtain⟨tx,htx⟩:∃x,T t.text=x:=⟨_,rfl⟩;obtain⟨wl,hwl⟩:∃x,t.word.length=x:=⟨_,rfl⟩;obtain⟨s2,hs2⟩:∃R,T s=R:=⟨_,rfl⟩;obtain⟨R,hR⟩:∃R,T ((plainT t.word).getD [])=R:=⟨_,rfl⟩;obtain⟨O,hO⟩:∃O,(plainT t.word).isSome=O:=⟨_,rfl⟩
  have hl:(plainT t.word==some s)=(O&&R.toList==s2.toList):=by
    rw[←hR,←hs2,←hO,Lib.toList_data,Lib.toList_data]
    cases plainT t.word<;>simp
  rw[hl,hkd]at HI;simp only[hkd,htx,hwl]at HN;rw[hR,hO]at HPL;rw[hwl]at HPL;rw[hs2];clear hkd htx hwl hs2 hl hR hO;go_enter Tryz.func176,Tryz.ntmps176
  go_wp2_with (first
    |(go_at_call 29;(with_reducible refine(HN.out _ HP.out).mono ?_);rintro en w1 ⟨p,k,a,rfl,hu,hb1⟩;have qf:=tok_f2 kd a tx p wl k;have HC:=yH (HPL.out _ (HP.out.new hb1).below p k hu.1);have HB1:=yH hb1;clear hb1 hu)
    |(go_at_call 93;(with_reducible refine HC.out.mono ?_);rintro en w2 ⟨rfl,hb2⟩;have HB2:=yH (HB1.out.trans (hb2.mono HB1.out.size));clear hb2)
    |(go_at_call 29;(with_reducible refine(HN.out _ (HP.out.new HB2.out)).mono ?_);rintro en w3 ⟨p3,k3,a3,rfl, -,hb3⟩;have qf3:=tok_f0 kd a3 tx p3 wl k3;have HB3:=yH (HB2.out.trans (hb3.mono HB2.out.size));clear hb3))
  all_goals go_ret
  all_goals exact⟨ret_bool (by rw[HI.out];simp_all),HB3.out⟩
theorem qword_any {w0 w:World} {X:Nat} {S:PS} (h:Rr w0 w X S) {s:List UInt8} (hs:anyIn s metaB=false) (hn:s≠ []):
    Calls Tryz.prog 143 #[.pointer (some ⟨X,0,none⟩),.string (T s)] w fun e w'=>e= .returned (.bool (S.takes s).1)∧QStep w0 w w' X (S.takes s).2:=by
  have HI:=yH (qis_any h hs hn);have hne:S.is s=true→S.hd.kind≠3:=fun hi=>is_ne h.good hn hi;have HP:=yH h;obtain⟨s2,hs2⟩:∃R,T s=R:=⟨_,rfl⟩;rw[hs2]at HI ⊢;unfold PS.takes
  cases hi:S.is s with
  |true=>
    rw[hi]at HI;have HK:=yH (hne hi);clear hi h hs hs2 hne hn;go_enter Tryz.func143,Tryz.ntmps143
    go_wp2_with (go_at_call 176;refine HI.out.mono ?_;rintro en w1 ⟨rfl,hb1⟩;obtain⟨i,hn⟩:=(HP.out.new hb1).next HK.out;have c1:=hn.cell;have f1:=hn.open_;have q1:=hn.wrap;have HN:=yH (QStep.ahead hb1 hn.step);clear hb1 hn)
    go_ret;exact⟨rfl,HN.out⟩
  |false=>
    rw[hi]at HI;clear hi h hs hs2 hne hn;go_enter Tryz.func143,Tryz.ntmps143
    go_wp2_with (go_at_call 176;refine HI.out.mono ?_;rintro en w1 ⟨rfl,hb1⟩;have HB1:=yH hb1;clear hb1)
    go_ret;exact⟨rfl,HP.out.new HB1.out,Kept.of_below HB1.out⟩
theorem qlines_any {w0 w:World} {X:Nat} {S:PS} (h:Rr w0 w X S):
    Calls Tryz.prog 64 #[.pointer (some ⟨X,0,none⟩)] w fun e w'=>e= .returned (.tuple #[])∧QStep w0 w w' X S.lines:=by
  have HP:=yH h;clear h;go_enter Tryz.func64,Tryz.ntmps64;go_wp2_with fail
  go_loopw [] (fun wr=> ∃f S',QStep w0 w wr X S'∧linesL f S'=S.lines∧S'.ts.length≤f) (fun wr=>rsLen wr X)
  case atStart=>exact⟨S.ts.length,S,QStep.refl HP.out,rfl,Nat.le_refl _⟩
  case round=>
    obtain⟨f,S',hs,hm,hf⟩:=hrel;have hpos:=hs.1.good.pos;obtain⟨f,rfl⟩:∃g,f=g+1:=⟨f-1,by omega⟩;have HT:=yH (qeat_any hs.1 (s:= [10]) (by decide));have HS:=yH (And.intro hs (And.intro hm hf));have HDD:=yH hs.1.dead;clear hs hm hf hpos;unfold PS.takes at HT
    cases hi:S'.is [10]with
    |true=>
      rw[hi,if_pos rfl]at HT;have HI:=yH hi;clear hi
      go_wp2_with (go_at_call 113;(with_reducible refine HT.out.mono ?_);rintro en w1 ⟨rfl,hs1⟩;have HS1:=yH hs1;clear hs1)
      go_roundw
      case rel=>exact⟨f,_,HS.out.1.trans HS1.out,by rw[←HS.out.2.1,linesL,if_pos HI.out],by have:=take_lt HS.out.1.1.good (is_ne HS.out.1.1.good (by decide) HI.out);have:=HS.out.2.2;omega⟩
      case measure=>
        rw[HS1.out.1.len,HS.out.1.1.len,take_err];have:=take_lt HS.out.1.1.good (is_ne HS.out.1.1.good (by decide) HI.out);omega
    |false=>
      rw[hi,if_neg (by decide)]at HT;have HI:=yH hi;clear hi
      go_wp2_with (go_at_call 113;(with_reducible refine HT.out.mono ?_);rintro en w1 ⟨rfl,hs1⟩;have HS1:=yH hs1;clear hs1)
      go_end0
      refine⟨rfl,?_⟩;rw[←HS.out.2.1,linesL,if_neg (by rw[HI.out];decide)];exact HS.out.1.trans HS1.out
theorem qdeep_any {w0 w:World} {X:Nat} {S:PS} (h:Rr w0 w X S) (d:Nat):
    Calls Tryz.prog 177 #[.pointer (some ⟨X,0,none⟩),.int .i64 (d:Int)] w fun e w'=>e= .returned (.tuple #[])∧QStep w0 w w' X (if 20≤d then S.fail 3 else S):=by
  have HP:=yH h;clear h
  by_cases hd:20≤d
  · rw[if_pos hd]
    have hdi:(20:Int)≤(d:Int):=(by omega);clear hd;go_enter Tryz.func177,Tryz.ntmps177
    go_wp2_with (go_at_call 30;refine(qfail_any HP.out 3 (by decide) (by decide)).mono ?_;rintro en w1 ⟨rfl,hs⟩;have HS:=yH hs;clear hs)
    go_end0
    exact⟨rfl,HS.out⟩
  · rw[if_neg hd]
    have hdi:¬(20:Int)≤(d:Int):=(by omega);clear hd;go_enter Tryz.func177,Tryz.ntmps177;go_wp2_with fail
    go_end0
    exact⟨rfl,QStep.refl HP.out⟩
theorem word_yes {S:PS} (h:S.isWord=true):S.word=(S.hd.word,S.take):=by
  unfold PS.word PS.want;rw[h,if_pos rfl]
theorem word_no {S:PS} (hg:GoodS S) (h:S.isWord=false):S.word=([],S.fail 2):=by
  have h2:=(to_fail hg (e:=2) (by decide)).good;have hd:Dead (S.fail 2):=fail_one hg 2;unfold PS.word PS.want;rw[h,if_neg (by decide),take_dead h2 hd]
  rcases h2.hd with ⟨h3, -⟩|⟨h3, -⟩
  · rw[h3.word]
  · exact absurd (Dead.kind h2 hd) h3.ne
set_option maxHeartbeats 1000000 in
set_option maxRecDepth 4000 in
theorem qany2_any {w0 w:World} {X:Nat} {S:PS} (h:Rr w0 w X S):
    Calls Tryz.prog 212 #[.pointer (some ⟨X,0,none⟩)] w fun e w'=> ∃p k,e= .returned (.agg #[.slice p S.word.1.length k])∧(PsAt w0 (.slice p S.word.1.length k) S.word.1∧S.word.1.length≤k)∧QStep w0 w w' X S.word.2:=by
  have HX:=yH h.base;have HB:=yH (below_new w);have HP:=yH (fun o=>h.new (below_new w o));have HZ:=yH (heap_alloc_new w);have hg:=h.good;have HNX:=yH (fun (hk:S.hd.kind≠3) W (hW:Rr w0 W X S)=>hW.next hk);have HN:=yH (fun W (hW:Rr w0 W X S)=>qnow_any hW);clear h
  cases hi:S.isWord with
  |true=>
    have hk:S.hd.kind=1:=(by simpa [PS.isWord]using hi);rw[word_yes hi];dsimp only;have HNY:=yH (HNX.out (by rw[hk];decide));obtain⟨t,ht⟩:∃t,S.hd=t:=⟨_,rfl⟩;rw[ht]at HN hk ⊢;unfold tkN at HN;obtain⟨tx,htx⟩:∃x,T t.text=x:=⟨_,rfl⟩;obtain⟨wl,hwl⟩:∃x,t.word.length=x:=⟨_,rfl⟩;simp only[hk,htx,hwl]at HN;rw[hwl];clear hi hg hk ht htx hwl HNX;go_enter Tryz.func212,Tryz.ntmps212
    go_wp2_with (go_at_call 29;refine(HN.out _ (HP.out _)).mono ?_;rintro en w1 ⟨p,k,a,rfl,hu,hb1⟩;obtain⟨i,hn⟩:=HNY.out (w1.alloc (.cells #[.int .i64 1,.string tx,.slice p wl k,.int .i64 a] 53)) (((HP.out _).new hb1).new (below_new w1 _));have hz1:=(hb1.block w.heap.size (by simp)).trans (HZ.out _);have hl1:=(gS.1 hz1).1;have hx1:=HX.out;have hv2:=(Below.heap_setCell (w1.alloc (.cells #[.int .i64 1,.string tx,.slice p wl k,.int .i64 a] 53)) ⟨X,1,none⟩ (.int .i64 ((i+1:Nat):Int)) w1.heap.size (show w1.heap.size≠X by omega)).trans (heap_alloc_new w1 _);have hv0:=(Below.heap_setCell (w1.alloc (.cells #[.int .i64 1,.string tx,.slice p wl k,.int .i64 a] 53)) ⟨X,1,none⟩ (.int .i64 ((i+1:Nat):Int)) w.heap.size (show w.heap.size≠X by omega)).trans ((Below.heap_alloc w1 _ _ hl1).trans hz1);have d2:=cell_plain hv2 2;have d0:=cell_plain hv0 0;have f0:=frozen_plain hv0 0;have hy0:=(Below.heap_alloc w1 (.cells #[.int .i64 1,.string tx,.slice p wl k,.int .i64 a] 53) _ hl1).trans hz1;have d0':=cell_plain hy0 0;have f0':=frozen_plain hy0 0;have c1:=hn.cell;have f1:=hn.open_;have q1:=hn.wrap;have HS:=yH (And.intro hn.step (And.intro hu (And.intro hb1 hv0)));clear hn hu hb1 hz1 hl1 hx1 hv2 hv0 hy0)
    (try simp only[Exit.inBlock,Exit.then])
    obtain⟨hs,hu,hb1,hv0⟩:=HS.out;refine bodyPost_ret (ret_word rfl (heap_set_one hv0 _) rfl) rfl ?_;have hx:=HX.out;refine⟨p,k,rfl,hu,hs.1.kept (D:=fun j=>j=w.heap.size) ((Kept.refl (fun j=>j=w.heap.size) _).setCell (p:=⟨w.heap.size,0,none⟩) (.inl rfl) _) (by omega) (fun j hj=>by omega),?_⟩;exact((((Kept.of_below (D:=fun j=>j=X) (HB.out _)).on (Kept.of_below hb1)).on (Kept.of_below (below_new w1 _))).on hs.2).setCell (p:=⟨w.heap.size,0,none⟩) (.inr (Nat.le_refl _)) _
  |false=>
    have hk:S.hd.kind≠1:=(by simpa [PS.isWord]using hi);rw[word_no hg hi];dsimp only;obtain⟨t,ht⟩:∃t,S.hd=t:=⟨_,rfl⟩;rw[ht]at HN hk;unfold tkN at HN;obtain⟨kd,hkd⟩:∃x,t.kind=x:=⟨_,rfl⟩;obtain⟨tx,htx⟩:∃x,T t.text=x:=⟨_,rfl⟩;obtain⟨wl,hwl⟩:∃x,t.word.length=x:=⟨_,rfl⟩;simp only[hkd,htx,hwl]at HN;rw[hkd]at hk;have hk1:(kd !=1)=true:=(by simpa using hk);clear hi hg ht hkd htx hwl HNX hk;go_enter Tryz.func212,Tryz.ntmps212
    go_wp2_with (first
      |(go_at_call 29;refine(HN.out _ (HP.out _)).mono ?_;rintro en w1 ⟨p,k,a,rfl, -,hb1⟩;have HB1:=yH (And.intro hb1 ((hb1.block w.heap.size (by simp)).trans (HZ.out _)));clear hb1)
      |(go_at_call 30;refine(qfail_any (((HP.out _).new HB1.out.1).new (below_new w1 _)) 2 (by decide) (by decide)).mono ?_;rintro en w2 ⟨rfl,hs⟩;have hz2:=hs.2.heap ((Below.heap_alloc w1 _ _ (gS.1 HB1.out.2).1).trans HB1.out.2) (by have:=HX.out;omega);have d0:=cell_plain hz2 0;have f0:=frozen_plain hz2 0;have HS:=yH (And.intro hs hz2);clear hs hz2))
    (try simp only[Exit.inBlock,Exit.then])
    obtain⟨hs,hz⟩:=HS.out;refine bodyPost_ret (ret_word rfl (heap_set_one hz _) rfl) rfl ?_;have hx:=HX.out;refine⟨none,0,rfl,⟨PsAt.nil _ _,Nat.le_refl _⟩,hs.1.kept (D:=fun j=>j=w.heap.size) ((Kept.refl (fun j=>j=w.heap.size) _).setCell (p:=⟨w.heap.size,0,none⟩) (.inl rfl) _) (by omega) (fun j hj=>by omega),?_⟩;exact((((Kept.of_below (D:=fun j=>j=X) (HB.out _)).on (Kept.of_below HB1.out.1)).on (Kept.of_below (below_new w1 _))).on hs.2).setCell (p:=⟨w.heap.size,0,none⟩) (.inr (Nat.le_refl _)) _
theorem qany_any {w0 w:World} {X:Nat} {S:PS} (h:Rr w0 w X S):
    Calls Tryz.prog 212 #[.pointer (some ⟨X,0,none⟩)] w fun e w'=> ∃p k,e= .returned (.agg #[.slice p S.word.1.length k])∧PsAt w0 (.slice p S.word.1.length k) S.word.1∧QStep w0 w w' X S.word.2:=
  (qany2_any h).mono fun _ _ ⟨p,k,h1,h2,h3⟩=>⟨p,k,h1,h2.1,h3⟩
theorem ends_meta:∀s∈signsB,(endsL.contains s||s== [101,115,97,99])=(s== [41]||s== [59,59]):=by decide
theorem endsR_sign {S:PS} (hg:GoodS S) (hk:S.hd.kind≠1):S.endsR=(S.hd.kind==3||S.is [41]||S.is [59,59]):=by
  unfold PS.endsR PS.ends PS.is PS.tx textK;rw[if_neg hk]
  rcases hg.hd with ⟨e, -⟩|⟨m, -⟩
  · rw[e.kind,e.text]
    decide
  · rcases m.is with ⟨h1, -⟩|⟨h2, -,ht⟩
    · exact absurd h1 hk
    · have:=ends_meta S.hd.text (by simpa using ht)
      rw[h2];have e3:((2:Int)==3)=false:=(by decide);rw[e3,Bool.or_false,Bool.false_or];exact this
theorem endsR_plain {S:PS} (hg:GoodS S) (hk:S.hd.kind=1):S.endsR=match plainT S.hd.word with
    |none=>false
    |some t=>t== [116,104,101,110]||t== [101,108,105,102]||t== [101,108,115,101]||t== [102,105]||t== [100,111]||t== [100,111,110,101]||t== [101,115,97,99]||t== [125]:=by
  have hm:MidT S.hd:=by
    rcases hg.hd with ⟨e, -⟩|⟨m, -⟩
    · rw[e.kind]at hk;exact absurd hk (by decide)
    · exact m
  unfold PS.endsR PS.ends PS.is PS.tx textK;rw[if_pos hk,hk]
  cases hp:plainT S.hd.word with
  |none=>rfl
  |some t=>
    obtain⟨h1, -⟩:=mid_plain hm hk hp
    have q1:(t== [41])=false:=by
      cases hq:t== [41]with
      |false=>rfl
      |true=>rw[eq_of_beq hq]at h1;exact absurd h1 (by decide)
    have q2:(t== [59,59])=false:=by
      cases hq:t== [59,59]with
      |false=>rfl
      |true=>rw[eq_of_beq hq]at h1;exact absurd h1 (by decide)
    simp only[Option.getD_some,endsL,List.contains_cons,List.contains_nil,q1,q2,Bool.or_false,Bool.false_or]
    cases t== [116,104,101,110]<;>cases t== [101,108,105,102]<;>cases t== [101,108,115,101]<;>cases t== [102,105]<;>cases t== [100,111]<;>cases t== [100,111,110,101]<;>cases t== [101,115,97,99]<;>cases t== [125]<;>rfl
set_option maxHeartbeats 2000000 in
set_option maxRecDepth 4000 in
theorem qends_any {w0 w:World} {X:Nat} {S:PS} (h:Rr w0 w X S):
    Calls Tryz.prog 67 #[.pointer (some ⟨X,0,none⟩)] w fun e w'=>e= .returned (.bool S.endsR)∧Below w.heap.size w w':=by
  have hg:=h.good;have HB:=yH (below_new w);have HN:=yH (fun W (hW:Rr w0 W X S)=>qnow_any hW);have HP:=yH h;have HS1:=yH (fun W (hW:Rr w0 W X S)=>qsign_any hW [41]);have HS2:=yH (fun W (hW:Rr w0 W X S)=>qsign_any hW [59,59]);rw[sg_is hg (by decide)]at HS1 HS2;clear h
  by_cases hk:S.hd.kind=1
  · have HE:=endsR_plain hg hk
    obtain⟨B,hB⟩:∃B,S.endsR=B:=⟨_,rfl⟩;rw[hB]at HE ⊢;clear hB HS1 HS2;obtain⟨t,ht⟩:∃t,S.hd=t:=⟨_,rfl⟩;rw[ht]at HN hk HE;have HPL:=yH (fun W (hW:Below w0.heap.size w0 W) p k (hu:PsAt w0 (.slice p t.word.length k) t.word)=>rplain_any t.word _ W (hu.stays hW));unfold wordV at HPL;unfold tkN at HN;obtain⟨tx,htx⟩:∃x,T t.text=x:=⟨_,rfl⟩;obtain⟨wl,hwl⟩:∃x,t.word.length=x:=⟨_,rfl⟩;simp only[hk,htx,hwl]at HN;rw[hwl]at HPL
    cases hp:plainT t.word with
    |none=>
      rw[hp]at HE HPL;have HE:=yH HE;clear hg hk ht htx hwl hp;go_enter Tryz.func67,Tryz.ntmps67
      go_wp2_with (first
        |(go_at_call 29;(with_reducible refine(HN.out _ HP.out).mono ?_);rintro en w1 ⟨p,k,a,rfl,hu,hb1⟩;have HC:=yH (HPL.out _ ((HP.out.new hb1).new (below_new w1 (.cells #[.int .i64 1,.string tx,.slice p wl k,.int .i64 a] 53))).below p k hu.1);have HB1:=yH (hb1.trans ((below_new w1 (.cells #[.int .i64 1,.string tx,.slice p wl k,.int .i64 a] 53)).mono hb1.size));clear hb1 hu)
        |(go_at_call 93;(with_reducible refine HC.out.mono ?_);rintro en w2 ⟨rfl,hb2⟩;have HB2:=yH (HB1.out.trans (hb2.mono HB1.out.size));clear hb2))
      go_ret;exact⟨ret_bool (by rw[HE.out]),HB2.out⟩
    |some tt=>
      rw[hp]at HE HPL;obtain⟨R,hR⟩:∃R,T tt=R:=⟨_,rfl⟩;have hl:tt=R.toList:=(by rw[←hR,Lib.toList_data]);rw[show (some tt).getD []=tt from rfl,hR]at HPL;rw[hl]at HE;have HE:=yH HE;clear hg hk ht htx hwl hp hl hR;go_enter Tryz.func67,Tryz.ntmps67
      go_wp2_with (first
        |(go_at_call 29;(with_reducible refine(HN.out _ HP.out).mono ?_);rintro en w1 ⟨p,k,a,rfl,hu,hb1⟩;have HC:=yH (HPL.out _ ((HP.out.new hb1).new (below_new w1 (.cells #[.int .i64 1,.string tx,.slice p wl k,.int .i64 a] 53))).below p k hu.1);have HB1:=yH (hb1.trans ((below_new w1 (.cells #[.int .i64 1,.string tx,.slice p wl k,.int .i64 a] 53)).mono hb1.size));clear hb1 hu)
        |(go_at_call 93;(with_reducible refine HC.out.mono ?_);rintro en w2 ⟨rfl,hb2⟩;have HB2:=yH (HB1.out.trans (hb2.mono HB1.out.size));clear hb2))
      all_goals go_ret
      all_goals exact⟨ret_bool (by rw[HE.out];try simp_all),HB2.out⟩
  · have HE:=endsR_sign hg hk
    obtain⟨B,hB⟩:∃B,S.endsR=B:=⟨_,rfl⟩;obtain⟨b1,hb1⟩:∃B,S.is [41]=B:=⟨_,rfl⟩;obtain⟨b2,hb2⟩:∃B,S.is [59,59]=B:=⟨_,rfl⟩;rw[hB,hb1,hb2]at HE;rw[hb1]at HS1;rw[hb2]at HS2;rw[hB];clear hB hb1 hb2;obtain⟨t,ht⟩:∃t,S.hd=t:=⟨_,rfl⟩;rw[ht]at HN hk HE;unfold tkN at HN;obtain⟨kd,hkd⟩:∃x,t.kind=x:=⟨_,rfl⟩;obtain⟨tx,htx⟩:∃x,T t.text=x:=⟨_,rfl⟩;obtain⟨wl,hwl⟩:∃x,t.word.length=x:=⟨_,rfl⟩;simp only[hkd,htx,hwl]at HN;rw[hkd]at HE hk;have hk1:(kd !=1)=true:=(by simpa using hk);have HE:=yH HE;clear hg hk ht htx hwl hkd
    by_cases h3:kd=3
    · subst h3
      go_enter Tryz.func67,Tryz.ntmps67
      go_wp2_with (first
        |(go_at_call 29;(with_reducible refine(HN.out _ HP.out).mono ?_);rintro en w1 ⟨p,k,a,rfl, -,hb1⟩;have HR1:=yH ((HP.out.new hb1).new (below_new w1 (.cells #[.int .i64 3,.string tx,.slice p wl k,.int .i64 a] 53)));have HB1:=yH (hb1.trans ((below_new w1 (.cells #[.int .i64 3,.string tx,.slice p wl k,.int .i64 a] 53)).mono hb1.size));clear hb1)
        |(go_at_call 66;(with_reducible refine(HS1.out _ HR1.out).mono ?_);rintro en w2 ⟨rfl,hb2⟩;have HR2:=yH (HR1.out.new hb2);have HB2:=yH (HB1.out.trans (hb2.mono HB1.out.size));clear hb2)
        |(go_at_call 66;(with_reducible refine(HS2.out _ HR2.out).mono ?_);rintro en w3 ⟨rfl,hb3⟩;have HB3:=yH (HB2.out.trans (hb3.mono HB2.out.size));clear hb3))
      all_goals go_ret
      all_goals first
        |exact⟨ret_bool (by rw[HE.out];try simp_all),HB3.out⟩
        |exact⟨ret_bool (by rw[HE.out];try simp_all),HB2.out⟩
        |exact⟨ret_bool (by rw[HE.out];try simp_all),HB1.out⟩
    · have h4:(kd==3)=false:=by simpa using h3
      clear h3;go_enter Tryz.func67,Tryz.ntmps67
      go_wp2_with (first
        |(go_at_call 29;(with_reducible refine(HN.out _ HP.out).mono ?_);rintro en w1 ⟨p,k,a,rfl, -,hb1⟩;have HR1:=yH ((HP.out.new hb1).new (below_new w1 (.cells #[.int .i64 kd,.string tx,.slice p wl k,.int .i64 a] 53)));have HB1:=yH (hb1.trans ((below_new w1 (.cells #[.int .i64 kd,.string tx,.slice p wl k,.int .i64 a] 53)).mono hb1.size));clear hb1)
        |(go_at_call 66;(with_reducible refine(HS1.out _ HR1.out).mono ?_);rintro en w2 ⟨rfl,hb2⟩;have HR2:=yH (HR1.out.new hb2);have HB2:=yH (HB1.out.trans (hb2.mono HB1.out.size));clear hb2)
        |(go_at_call 66;(with_reducible refine(HS2.out _ HR2.out).mono ?_);rintro en w3 ⟨rfl,hb3⟩;have HB3:=yH (HB2.out.trans (hb3.mono HB2.out.size));clear hb3))
      all_goals go_ret
      all_goals first
        |exact⟨ret_bool (by rw[HE.out];try simp_all),HB3.out⟩
        |exact⟨ret_bool (by rw[HE.out];try simp_all),HB2.out⟩
        |exact⟨ret_bool (by rw[HE.out];try simp_all),HB1.out⟩
theorem rtree_info:(Tryz.prog.info? 74).map (·.size)=some 8:=by kernel_rfl
theorem ret_rtree {fn:Func} {p:Tmp} (hf:fn.results= #[.cell p 74]) {tmps:Array Value} {k:Nat} {cs:List Value} {w:World} {t:TypeId} {fr:Nat×Nat} (h:w.heap[k]? =some (.cells cs.toArray t fr)) (hc:Cel 8 cs) (h2:tmps.getD p undef= .pointer (some ⟨k,0,none⟩)):
    (results fn tmps).run Tryz.prog w= .ok (.agg cs.toArray) w:=results_cell_row hf tmps w k t cs.toArray fr _ h2 h Tryz.underlying74 rfl (by rw[rtree_info];simp[hc.1])
theorem ret_rtree2 {fn:Func} {p u:Tmp} (hf:fn.results= #[.cell p 74,.tmp u]) {tmps:Array Value} {k:Nat} {cs:List Value} {x:Value} {w:World} {t:TypeId} {fr:Nat×Nat} (h:w.heap[k]? =some (.cells cs.toArray t fr)) (hc:Cel 8 cs) (h2:tmps.getD p undef= .pointer (some ⟨k,0,none⟩)) (h3:tmps.getD u undef=x):
    (results fn tmps).run Tryz.prog w= .ok (.tuple #[.agg cs.toArray,x]) w:=by
  rw[results_cell_tmp hf,h2,h3];have:(loadVar 74 ⟨k,0,none⟩).run Tryz.prog w= .ok (.agg cs.toArray) w:=run_loadVar_row (P:=Tryz.prog) w k t 74 _ fr _ h Tryz.underlying74 rfl (by rw[rtree_info];simp[hc.1]);simp[asAddr,Result.andThen,this]
theorem qof_any (o:ByteArray) (p:Option Addr) (n c:Nat) (w:World):
    Calls Tryz.prog 68 #[.string o,.slice p n c] w fun e w'=>e= .returned (.agg (ofC o (.slice p n c)).toArray)∧Below w.heap.size w w':=by
  have HB:=yH (below_new w);go_enter Tryz.func68,Tryz.ntmps68;go_wp2_with fail
  (try simp only[Exit.inBlock,Exit.then])
  refine bodyPost_ret (ret_rtree (cs:=ofC o (.slice p n c)) rfl (heap_alloc_new w _) (ofC_cel _ _ _ _) rfl) rfl ?_;exact⟨rfl,HB.out _⟩
end Go.Proofs.YtcpmjkefbjbhpaaGreatDoor
