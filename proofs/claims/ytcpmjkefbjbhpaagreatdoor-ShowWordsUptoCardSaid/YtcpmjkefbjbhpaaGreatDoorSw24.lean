/-
  Proved: contracts of functions, plain facts. Conditions: as each says.
-/
import Derived.Test.YtcpmjkefbjbhpaaGreatDoorSw19
import Derived.Test.YtcpmjkefbjbhpaaGreatDoorSw20
import Derived.Test.YtcpmjkefbjbhpaaGreatDoorTreeRParts
import Derived.Test.YtcpmjkefbjbhpaaGreatDoorSw07
namespace Go.Proofs.YtcpmjkefbjbhpaaGreatDoor
open Go Go.RowKit GlyphMath LexMath TreeMath ParseMath
def stR (L:List Tk) (i e a:Nat):PS:=if e=0 then⟨L.drop i,0,0⟩else ⟨L.drop (L.length-1),a,e⟩
structure RrO (w0 w:World) (X:Nat) (L:List Tk) (G c i e a:Nat):Prop where
  below:Below w0.heap.size w0 w
  base:w0.heap.size≤X
  head:w.heap[X]? =some (.cells #[.slice (some ⟨G,0,none⟩) L.length c,.int .i64 (i:Int),.int .i64 (e:Int),.int .i64 (a:Int)] 71 (0,0))
  lt:i<L.length
  toks:ToksAt w0 G 0 L
  good:GoodS ⟨L,0,0⟩
  few:a≤2000∧e≤3
def Rr (w0 w:World) (X:Nat) (S:PS):Prop:=∃L G c i e a,RrO w0 w X L G c i e a∧stR L i e a=S
theorem stR_good {L:List Tk} {i e a:Nat} (h:GoodS ⟨L,0,0⟩) (hi:i<L.length) (hf:a≤2000∧e≤3):GoodS (stR L i e a):=by
  have hfew:=h.few;dsimp only at hfew;unfold stR
  split
  · exact⟨h.row.suf (List.drop_suffix _ _) (List.length_pos_iff.1 (by simp;omega)),by simp;omega,Nat.zero_le _,Nat.zero_le _⟩
  · exact⟨h.row.suf (List.drop_suffix _ _) (List.length_pos_iff.1 (by simp;omega)),by simp;omega,hf.1,hf.2⟩
theorem Rr.good {w0 w:World} {X:Nat} {S:PS} (h:Rr w0 w X S):GoodS S:=by
  obtain⟨L,G,c,i,e,a,h,rfl⟩:=h;exact stR_good h.good h.lt h.few
theorem Rr.below {w0 w:World} {X:Nat} {S:PS} (h:Rr w0 w X S):Below w0.heap.size w0 w:=by
  obtain⟨L,G,c,i,e,a,h,rfl⟩:=h;exact h.below
theorem Rr.base {w0 w:World} {X:Nat} {S:PS} (h:Rr w0 w X S):w0.heap.size≤X∧X<w.heap.size:=by
  obtain⟨L,G,c,i,e,a,h,rfl⟩:=h;exact⟨h.base,(gS.1 h.head).1⟩
theorem Rr.dead {w0 w:World} {X:Nat} {S:PS} (h:Rr w0 w X S) (he:S.err≠0):Dead S:=by
  obtain⟨L,G,c,i,e,a,h,rfl⟩:=h;have:=h.lt;unfold stR at*
  split at he
  · exact absurd rfl he
  · rename_i h0
    rw[if_neg h0];unfold Dead;simp;omega
theorem RrO.kept {D:Nat→Prop} {w0 w w':World} {X G c i e a:Nat} {L:List Tk} (h:RrO w0 w X L G c i e a) (hk:Kept D w w') (hX:¬D X) (hD:∀k,D k→w0.heap.size≤k):RrO w0 w' X L G c i e a:=
  ⟨below_kept h.below hk hD h.below.size,h.base,hk.heap h.head hX,h.lt,h.toks,h.good,h.few⟩
theorem Rr.kept {D:Nat→Prop} {w0 w w':World} {X:Nat} {S:PS} (h:Rr w0 w X S) (hk:Kept D w w') (hX:¬D X) (hD:∀k,D k→w0.heap.size≤k):Rr w0 w' X S:=by
  obtain⟨L,G,c,i,e,a,h,rfl⟩:=h;exact⟨L,G,c,i,e,a,h.kept hk hX hD,rfl⟩
theorem Rr.new {w0 w w':World} {X:Nat} {S:PS} (h:Rr w0 w X S) (hb:Below w.heap.size w w'):Rr w0 w' X S:=h.kept (D:=fun _=>False) (Kept.of_below hb) (fun h=>h) fun _ h=>h.elim
def QStep (w0 w w':World) (X:Nat) (S:PS):Prop:=Rr w0 w' X S∧Kept (fun k=>k=X) w w'
theorem QStep.refl {w0 w:World} {X:Nat} {S:PS} (h:Rr w0 w X S):QStep w0 w w X S:=⟨h,Kept.refl _ _⟩
theorem QStep.trans {w0 w w1 w2:World} {X:Nat} {S S':PS} (h:QStep w0 w w1 X S) (k:QStep w0 w1 w2 X S'):QStep w0 w w2 X S':=⟨k.1,h.2.on k.2⟩
theorem QStep.ahead {w0 w w1 w2:World} {X:Nat} {S:PS} (h:Below w.heap.size w w1) (k:QStep w0 w1 w2 X S):QStep w0 w w2 X S:=⟨k.1,(Kept.of_below h).on k.2⟩
def rsLen (w:World) (X:Nat):Nat:=match w.heap[X]? with
  |some (.cells cs _ _)=>match cs[0]?,cs[1]?,cs[2]? with
    |some (Value.slice _ n _),some (Value.int _ i),some (Value.int _ e)=>if e=0 then n-i.toNat+1 else 1
    |_,_,_=>0
  |_=>0
theorem Rr.len {w0 w:World} {X:Nat} {S:PS} (h:Rr w0 w X S):rsLen w X=S.ts.length+(if S.err=0 then 1 else 0):=by
  have hd:=h.dead;obtain⟨L,G,c,i,e,a,h,rfl⟩:=h;unfold rsLen;rw[h.head];show(if(e:Int)=0 then _ else _)=_
  by_cases he:e=0
  · subst he
    rw[if_pos (by rfl)];show _=(L.drop i).length+1;simp
  · have hs:(stR L i e a).err=e:=by unfold stR;rw[if_neg he]
    rw[if_neg (by omega),hs,if_neg he];have:=hd (by rw[hs];exact he);unfold Dead at this;omega
theorem RrO.hd {w0 w:World} {X G c i a:Nat} {L:List Tk} (h:RrO w0 w X L G c i 0 a):∃p k,(PsAt w0 (.slice p (stR L i 0 a).hd.word.length k) (stR L i 0 a).hd.word∧(stR L i 0 a).hd.word.length≤k)∧w.cell? ⟨G,i*4,none⟩=some (.int .i64 (stR L i 0 a).hd.kind)∧w.cell? ⟨G,i*4+1,none⟩=some (.string (T (stR L i 0 a).hd.text))∧w.cell? ⟨G,i*4+2,none⟩=some (.slice p (stR L i 0 a).hd.word.length k)∧w.cell? ⟨G,i*4+3,none⟩=some (.int .i64 ((stR L i 0 a).hd.at_:Int)):=by
  have h0:L[i]? =some (stR L i 0 a).hd:=by
    have:(stR L i 0 a).ts[0]? =L[i]? :=by
      show(L.drop i)[0]? =_;rw[List.getElem?_drop,Nat.add_zero]
    rw[←this]
    rcases(stR_good h.good h.lt (e:=0) ⟨h.few.1,Nat.zero_le _⟩).hd with ⟨-,e⟩|⟨-, -,e⟩<;>rw[e]<;>rfl
  obtain⟨u,hu,ht,hcap⟩:=h.toks i _ h0;obtain⟨b,o',he,a0,a1,a2,a3⟩:=ht.below h.below;simp only[Option.some.injEq,Addr.mk.injEq,and_true]at he;obtain⟨rfl,rfl⟩:=he;obtain⟨p,k,rfl, -⟩:=hu.is;rw[Nat.zero_add]at a0 a1 a2 a3;obtain⟨p',n',k',e',hle⟩:=hcap;simp only[Value.slice.injEq]at e';obtain⟨rfl,rfl,rfl⟩:=e';exact⟨p,k,⟨hu,hle⟩,a0,a1,a2,a3⟩
end Go.Proofs.YtcpmjkefbjbhpaaGreatDoor
namespace Go.Proofs.YtcpmjkefbjbhpaaGreatDoor
open Go Go.RowKit GlyphMath LexMath TreeMath
set_option maxRecDepth 100000 in
theorem rplain_any (ps:List Pt) (v:Value) (w:World) (hv:PsAt w v ps):
    Calls Tryz.prog 93 #[wordV v] w fun e w'=>e= .returned (.tuple #[.string (T ((plainT ps).getD [])),.bool (plainT ps).isSome])∧Below w.heap.size w w':=by
  have HB:=yH (fun o=>below_one w o);unfold wordV
  match ps,hv with
  | [],hv=>
    obtain⟨p,c,rfl, -, -⟩:=hv.is;clear hv;go_enter Tryz.func93,Tryz.ntmps93;go_wp2_with fail
    go_ret2
    exact⟨rfl,HB.out _⟩
  |q::q2::r,hv=>
    obtain⟨p,c,rfl, -, -⟩:=hv.is
    have hL:(((q::q2::r).length:Int) !=1)=true:=by
      have:((q::q2::r).length:Int)≠1:=by rw[List.length_cons,List.length_cons];omega
      simpa using this
    have HT:=yH (show T ((plainT (q::q2::r)).getD [])=⟨#[]⟩∧(plainT (q::q2::r)).isSome=false from⟨rfl,rfl⟩);rw[HT.out.1,HT.out.2];obtain⟨L,hLL⟩:∃L,(q::q2::r).length=L:=⟨_,rfl⟩;rw[hLL]at hL ⊢;clear hv hLL;go_enter Tryz.func93,Tryz.ntmps93;go_wp2_with fail
    go_ret2
    exact⟨rfl,HB.out _⟩
  | [q],hv=>
    obtain⟨b,o,c,u,rfl, -,c0,c1,c2,c3,c4⟩:=first_cells hv;show Calls _ _ #[.agg #[.slice (some ⟨b,o,none⟩) 1 c]] _ _;obtain⟨s,hs⟩:∃s,T q.text=s:=⟨_,rfl⟩
    have HT:=yH (show T ((plainT [q]).getD [])=(if bareT q=true then s else⟨#[]⟩)∧(plainT [q]).isSome=bareT q from by
      rw[←hs];show T ((if bareT q=true then some q.text else none).getD [])=_∧(if bareT q=true then some q.text else none).isSome=_
      cases bareT q<;>exact⟨rfl,rfl⟩)
    rw[HT.out.1,HT.out.2];have HBT:=yH (show bareT q=(q.kind==1&& !q.q)from rfl);rw[HBT.out];rw[hs]at c1;obtain⟨kd,hkd⟩:∃s,q.kind=s:=⟨_,rfl⟩;obtain⟨qq,hqq⟩:∃s,q.q=s:=⟨_,rfl⟩;rw[hkd]at c0 ⊢;rw[hqq]at c4 ⊢;have d0:=fun x=>cell_below c0 (HB.out x);have d1:=fun x=>cell_below c1 (HB.out x);have d4:=fun x=>cell_below c4 (HB.out x);clear hv hs hkd hqq HBT HT c2 c3
    by_cases h:kd=1
    · subst h
      cases qq
      all_goals
        go_enter Tryz.func93,Tryz.ntmps93;go_wp2_with fail
        go_ret2
        exact⟨rfl,HB.out _⟩
    · have h1:(kd !=1)=true:=by simpa using h
      have h2:=int_ne h;rw[h2];clear h h2;go_enter Tryz.func93,Tryz.ntmps93;go_wp2_with fail
      go_ret2
      exact⟨rfl,HB.out _⟩
theorem gives_open (ps:List Pt):givesT ps=(match aheadT (openT ps)with|some n=>nameT n|none=>false):=rfl
def givesB (tx pre:List UInt8):Bool:=match aheadT tx with
  |some n=>nameT (pre++n)
  |none=>false
theorem givesB_nil (pre:List UInt8):givesB [] pre=false:=rfl
theorem givesB_hit (r pre:List UInt8):givesB (61::r) pre=nameT pre:=by
  unfold givesB;rw[aheadT,if_pos rfl];simp
theorem givesB_miss {c:UInt8} (h:¬c=61) (r pre:List UInt8):givesB (c::r) pre=givesB r (pre++ [c]):=by
  unfold givesB;rw[aheadT,if_neg h]
  cases aheadT r with
  |none=>rfl
  |some n=>simp
theorem take_T (s:ByteArray) (k:Nat):s.extract 0 k=T (s.data.toList.take k):=by
  apply ByteArray.ext;apply Array.toList_inj.1;simp[ByteArray.data_extract]
end Go.Proofs.YtcpmjkefbjbhpaaGreatDoor
namespace Go.Proofs.YtcpmjkefbjbhpaaGreatDoor.ParseMath
open Go Go.Lib GlyphMath LexMath TreeMath
mutual
def sizeT:Tr→Nat
  | .mk _ kids=>1+sizeL kids
def sizeL:List Tr→Nat
  | []=>0
  |t::r=>sizeT t+sizeL r
end
mutual
theorem laidM_length:∀(t:Tr) (l:List Nd),(laidM t l).length=l.length+sizeT t
  | .mk n kids,l=>by
    rw[laidM,laidL_length l.length kids,sizeT];simp only[List.length_append,List.length_singleton];omega
theorem laidL_length:∀(a:Nat) (ts:List Tr) (l:List Nd),(laidL a ts l).length=l.length+sizeL ts
  |a,[],l=>by rw[laidL,sizeL,Nat.add_zero]
  |a,t::r,l=>by
    rw[laidL,laidL_length a r,laidM_length t,List.length_modify,sizeL];omega
end
theorem sizeL_append (l r:List Tr):sizeL (l++r)=sizeL l+sizeL r:=by
  induction l with
  |nil=>simp[sizeL]
  |cons a l ih=>rw[List.cons_append,sizeL,sizeL,ih,Nat.add_assoc]
theorem sizeL_one (t:Tr):sizeL [t]=sizeT t:=by simp[sizeL]
theorem sizeL_push (l:List Tr) (t:Tr):sizeL (l++ [t])=sizeL l+sizeT t:=by rw[sizeL_append,sizeL_one]
theorem sizeT_of (op:List UInt8) (l:List Tr):sizeT (trOf op l)=1+sizeL l:=by rw[trOf,sizeT]
theorem sizeT_leaf (n:Nd):sizeT (.mk n [])=1:=by simp[sizeT,sizeL]
theorem sizeT_node (n m:Nd) (l:List Tr):sizeT (.mk n l)=sizeT (.mk m l):=by rw[sizeT,sizeT]
theorem sizeT_kids (t:Tr) (n:Nd):sizeT (.mk n t.kids)=sizeT t:=by
  cases t
  exact sizeT_node _ _ _
theorem size_several {op:List UInt8} :∀ {l:List Tr},1≤l.length→sizeT (several op l)+1≤sizeL l+l.length
  | [],h=>absurd h (by decide)
  | [t],_=>by simp[several,sizeL]
  |a::b::r,_=>by
    rw[several,sizeT_of]
    · simp only[List.length_cons];omega
    · simp
def SzAt (S:PS) (r:Tr×PS):Prop:=sizeT r.1+4*r.2.ts.length≤4*S.ts.length+1
def DoSz (cmd:Do):Prop:=∀S,GoodS S→SzAt S (cmd S)
def BrSz (br:Do):Prop:=∀S,GoodS S→S.hd.kind≠3→SzAt S (br S)
section
variable {cmd : Do} (hc : DoOk cmd) (hs : DoSz cmd)
include hc hs
theorem sz_pipeL:∀(f:Nat) (l:List Tr) {S:PS},GoodS S→l.length≤(pipeL cmd f l S).1.length∧sizeL (pipeL cmd f l S).1+(pipeL cmd f l S).1.length+4*(pipeL cmd f l S).2.ts.length≤sizeL l+l.length+4*S.ts.length
  |0,_,_,_=>⟨Nat.le_refl _,Nat.le_refl _⟩
  |f+1,l,S,h=>by
    unfold pipeL
    split
    · rename_i hi
      have h1:=(to_take h).trans (to_lines (to_take h).good);have h2:=h1.trans (hc _ h1.good);have hx:=sz_pipeL f (l++ [(cmd S.take.lines).1]) h2.good;have hb:=hs _ h1.good;have ht:=take_lt h (is_ne h (by decide) hi);have hl:=(to_lines (to_take h).good).len;simp only[SzAt,sizeL_push,List.length_append,List.length_singleton]at hx hb ⊢;omega
    · exact⟨Nat.le_refl _,Nat.le_refl _⟩
theorem sz_pipe:DoSz (pipeM cmd):=fun S h=>by
  unfold pipeM;have h1:=to_takes h [33];have h2:=hc _ h1.good;have hx:=sz_pipeL hc hs (cmd (S.takes [33]).2).2.ts.length [(cmd (S.takes [33]).2).1] h2.good;have hb:=hs _ h1.good;have hv:=size_several (op:= [112,105,112,101]) (l:=(pipeL cmd (cmd (S.takes [33]).2).2.ts.length [(cmd (S.takes [33]).2).1] (cmd (S.takes [33]).2).2).1) (by have:=hx.1;simpa using this);simp only[SzAt,sizeL_one,List.length_singleton]at hx hb ⊢
  cases hi:S.is [33]with
  |true=>
    have ht:=take_lt h (is_ne h (by decide) hi);have e1:(S.takes [33]).1=true:=(by unfold PS.takes;rw[hi];rfl);have e2:(S.takes [33]).2=S.take:=(by unfold PS.takes;rw[hi];rfl);rw[e2]at hx hb hv;rw[e1,e2];simp only[if_true,sizeT_of,sizeL_one];omega
  |false=>
    have e1:(S.takes [33]).1=false:=(by unfold PS.takes;rw[hi];rfl);have e2:(S.takes [33]).2=S:=(by unfold PS.takes;rw[hi];rfl);rw[e2]at hx hb hv;rw[e1,e2];simp only[Bool.false_eq_true,if_false];omega
theorem sz_andorL:∀(f:Nat) (n:Tr) {S:PS},GoodS S→sizeT (andorL cmd f n S).1+4*(andorL cmd f n S).2.ts.length≤sizeT n+4*S.ts.length
  |0,_,_,_=>Nat.le_refl _
  |f+1,n,S,h=>by
    have h1:=(to_take h).trans (to_lines (to_take h).good);have h2:=h1.trans (to_pipe hc _ h1.good);have hb:=sz_pipe hc hs _ h1.good;have hl:=(to_lines (to_take h).good).len;unfold andorL
    split
    · rename_i hi
      have ht:=take_lt h (is_ne h (by decide) hi);have hx:=sz_andorL f (trOf [97,110,100] [n,(pipeM cmd S.take.lines).1]) h2.good;simp only[SzAt,sizeT_of,sizeL]at hx hb ⊢;omega
    · split
      · rename_i hi
        have ht:=take_lt h (is_ne h (by decide) hi);have hx:=sz_andorL f (trOf [111,114] [n,(pipeM cmd S.take.lines).1]) h2.good;simp only[SzAt,sizeT_of,sizeL]at hx hb ⊢;omega
      · exact Nat.le_refl _
theorem sz_andor:DoSz (andorM cmd):=fun S h=>by
  have h1:=sz_pipe hc hs S h;have h2:=sz_andorL hc hs (pipeM cmd S).2.ts.length (pipeM cmd S).1 (to_pipe hc S h).good;unfold SzAt andorM at*;omega
theorem sz_listL:∀(f:Nat) (l:List Tr) {S:PS},GoodS S→l.length≤(listL cmd f l S).1.length∧sizeL (listL cmd f l S).1+(listL cmd f l S).1.length+4*(listL cmd f l S).2.ts.length≤sizeL l+l.length+4*S.ts.length
  |0,_,_,_=>⟨Nat.le_refl _,Nat.le_refl _⟩
  |f+1,l,S,h=>by
    have h2:=(to_sep h).trans (to_andor hc _ (to_sep h).good);have hb:=sz_andor hc hs _ (to_sep h).good;have hl:=(to_sep h).len;unfold listL
    split
    · rename_i hi
      rw[Bool.and_eq_true]at hi;have ht:=sep_lt h hi.1;have hx:=sz_listL f (l++ [(andorM cmd S.sep.2).1]) h2.good;simp only[SzAt,sizeL_push,List.length_append,List.length_singleton]at hx hb ⊢;omega
    · dsimp only
      omega
theorem sz_list:DoSz (listM cmd):=fun S h=>by
  unfold listM;have h1:=(to_lines h).trans (to_andor hc _ (to_lines h).good);have hb:=sz_andor hc hs _ (to_lines h).good;have hl:=(to_lines h).len;have hx:=sz_listL hc hs (andorM cmd S.lines).2.ts.length [(andorM cmd S.lines).1] h1.good;have hv:=size_several (op:= [115,101,113]) (l:=(listL cmd (andorM cmd S.lines).2.ts.length [(andorM cmd S.lines).1] (andorM cmd S.lines).2).1) (by have:=hx.1;simpa using this);simp only[SzAt,sizeL_one,List.length_singleton]at hx hb hv ⊢;omega
theorem sz_enclosed (op cl:List UInt8) {S:PS} (h:GoodS S) (hk:S.hd.kind≠3):SzAt S (enclosedM cmd op cl S):=by
  have h1:=to_take h;have h2:=to_list hc _ h1.good;have hb:=sz_list hc hs _ h1.good;have hn:=(to_need h2.good cl).len;have ht:=take_lt h hk;unfold SzAt enclosedM at*;simp only[sizeT_of,sizeL_one];omega
theorem sz_body:DoSz (bodyM cmd):=fun S h=>by
  have h1:=to_need h [100,111];have h2:=to_list hc _ h1.good;have hb:=sz_list hc hs _ h1.good;have hn:=(to_need h2.good [100,111,110,101]).len;have hl:=h1.len;unfold SzAt bodyM at*;dsimp only;omega
theorem sz_loop (op:List UInt8) {S:PS} (h:GoodS S) (hk:S.hd.kind≠3):SzAt S (loopM cmd op S):=by
  have h1:=to_take h;have h2:=to_list hc _ h1.good;have hb:=sz_list hc hs _ h1.good;have hn:=sz_body hc hs _ h2.good;have ht:=take_lt h hk;unfold SzAt loopM at*;simp only[sizeT_of,sizeL];omega
theorem sz_branch {br:Do} (hb:BrSz br):BrSz (branchM cmd br):=fun S h hk=>by
  have h1:=to_take h;have s1:=sz_list hc hs _ h1.good;have h2:=to_list hc _ h1.good;have h3:=to_need h2.good [116,104,101,110];have s3:=sz_list hc hs _ h3.good;have h4:=to_list hc _ h3.good;have l3:=h3.len;have ht:=take_lt h hk;unfold SzAt branchM at*;dsimp only
  split
  · rename_i hi
    have s5:=hb _ h4.good (is_ne h4.good (by decide) hi);unfold SzAt at s5;simp only[sizeT_of,sizeL];omega
  · split
    · rename_i hi
      have h5:=to_take h4.good;have s5:=sz_list hc hs _ h5.good;have h6:=to_list hc _ h5.good;have l6:=(to_need h6.good [102,105]).len;have l5:=h5.len;unfold SzAt at s5;simp only[sizeT_of,sizeL];omega
    · have l6:=(to_need h4.good [102,105]).len
      simp only[sizeT_of,sizeL];omega
theorem sz_each {S:PS} (h:GoodS S) (hk:S.hd.kind≠3):SzAt S (eachM cmd S):=by
  have h1:=to_take h;have h2:=to_name h1.good;have h3:=to_need h2.good [105,110];have h4:=to_wordsL ((S.take.name.2.need [105,110]).ts.length) [] h3.good;have h5:=to_sep h4.good;have hn:=sz_body hc hs _ h5.good;have ht:=take_lt h hk;have:=h2.len;have:=h3.len;have:=h4.len;have:=h5.len;unfold SzAt eachM at*;simp only[sizeT,sizeL_one];omega
theorem sz_choiceL:∀(f:Nat) (ps:List (List (List Pt))) (l:List Tr) {S:PS},GoodS S→sizeL (choiceL cmd f ps l S).kids+4*(choiceL cmd f ps l S).st.ts.length≤sizeL l+4*S.ts.length
  |0,_,_,_,_=>Nat.le_refl _
  |f+1,ps,l,S,h=>by
    unfold choiceL
    split
    · exact Nat.le_refl _
    · rename_i hi
      have hk:S.hd.kind≠3:=fun e=>hi (by rw[e];simp);have hx:=sz_choiceL f (ps++ [(patsM S).1]) (l++ [(listM cmd (patsM S).2).1]) (to_choiceR hc h).good;have hp:=pats_lt h hk;have h1:=to_pats h;have h2:=to_list hc _ h1.good;have hb:=sz_list hc hs _ h1.good;have h3:=to_need h2.good [59,59];have h4:=to_lines h3.good;have:=h3.len;have:=h4.len;simp only[SzAt,sizeL_push]at hx hb ⊢;omega
theorem sz_choice {S:PS} (h:GoodS S) (hk:S.hd.kind≠3):SzAt S (choiceM cmd S):=by
  have h1:=to_take h;have h2:=to_word h1.good;have h3:=to_need h2.good [105,110];have h4:=to_lines h3.good;have h5:=to_choiceL hc ((S.take.word.2.need [105,110]).lines.ts.length) [] [] h4.good;have hx:=sz_choiceL hc hs ((S.take.word.2.need [105,110]).lines.ts.length) [] [] h4.good;have h6:=to_need h5.good [101,115,97,99];have ht:=take_lt h hk;have:=h2.len;have:=h3.len;have:=h4.len;have:=h6.len;unfold SzAt choiceM at*;simp only[sizeT,sizeL]at hx ⊢;omega
theorem sz_compound {br:Do} (hb:BrSz br) {S:PS} (h:GoodS S) {r:Tr×PS} (hr:compoundM cmd br S=some r):SzAt S r:=by
  unfold compoundM at hr
  repeat' split at hr
  all_goals cases hr
  all_goals rename_i hi
  · exact sz_enclosed hc hs _ _ h (is_ne h (by decide) hi)
  · exact sz_enclosed hc hs _ _ h (is_ne h (by decide) hi)
  · exact sz_branch hc hs hb _ h (is_ne h (by decide) hi)
  · exact sz_loop hc hs _ h (is_ne h (by decide) hi)
  · exact sz_loop hc hs _ h (is_ne h (by decide) hi)
  · exact sz_each hc hs h (is_ne h (by decide) hi)
  · exact sz_choice hc hs h (is_ne h (by decide) hi)
omit hc hs in
theorem sz_simple {S:PS} (h:GoodS S):SzAt S (simpleM S):=by
  have:=(to_simple h).len;unfold SzAt;have e:sizeT (simpleM S).1=1:=(by unfold simpleM;exact sizeT_leaf _);omega
omit hc hs in
theorem sz_fun {held:Do} (sh:DoSz held) {S:PS} (h:GoodS S) (hf:S.isFun=true):SzAt S (funM held S):=by
  have h1:=to_name h;have h2:=to_need h1.good [40];have h3:=to_need h2.good [41];have h4:=to_lines h3.good;have hn:=sh _ h4.good
  have hname:S.isName=true:=by
    unfold PS.isFun at hf;rw[Bool.and_eq_true]at hf;exact hf.1
  have hk:S.hd.kind≠3:=fun e=>by
    unfold PS.isName at hname;rw[h.tx3 e]at hname
    revert hname
    decide+kernel
  have ht:S.name.2.ts.length<S.ts.length:=by
    have e:S.name.2=S.take:=(by unfold PS.name PS.want;rw[hname];rfl);rw[e];exact take_lt h hk
  have:=h2.len;have:=h3.len;have:=h4.len;unfold SzAt funM at*;simp only[sizeT,sizeL_one];omega
theorem sz_command {br held:Do} (hb:DoOk br) (sb:BrSz br) (sh:DoSz held):DoSz (commandM cmd br held):=fun S h=>by
  unfold commandM
  split
  · rename_i hf
    exact sz_fun sh h hf
  · split
    · rename_i r hr
      have h1:=to_compound hc hb h hr;have s1:=sz_compound hc hs sb h hr;have h2:=(to_redirsL r.2.ts.length r.1.node h1.good).len;unfold SzAt redirsM at*;rw[sizeT_kids];dsimp only;omega
    · exact sz_simple h
theorem sz_held:DoSz (heldM cmd):=fun S h=>by
  unfold heldM
  split
  · rename_i hi
    exact sz_enclosed hc hs _ _ h (is_ne h (by decide) hi)
  · split
    · rename_i hi
      exact sz_enclosed hc hs _ _ h (is_ne h (by decide) hi)
    · have:=(to_fail h (e:=2) (by decide)).len
      unfold SzAt tr0;rw[sizeT_leaf];dsimp only;omega
end
theorem sz_lv:∀k,DoSz (lv k).cmd∧BrSz (lv k).br∧DoSz (lv k).held
  |0=>by
    refine⟨fun S h=> ?_,fun S h _=> ?_,fun S h=> ?_⟩
    · have h1:=to_fail h (e:=3) (by decide)
      have:=sz_simple h1.good;have:=h1.len;show SzAt S (simpleM (S.fail 3));unfold SzAt at*;omega
    · unfold SzAt lv tr0
      rw[sizeT_leaf];dsimp only;omega
    · have:=(to_fail h (e:=3) (by decide)).len
      unfold SzAt lv tr0;rw[sizeT_leaf];dsimp only;omega
  |k+1=>by
    obtain⟨h1,h2,h3⟩:=sz_lv k;obtain⟨k1,k2,k3⟩:=to_lv k;exact⟨sz_command k1 h1 k2 h2 h3,sz_branch k1 h1 h2,sz_held k1 h1⟩
theorem script_size {S:PS} (h:GoodS S):sizeT (scriptM S).1≤4*S.ts.length+1:=by
  have:=sz_list (to_lv 20).1 (sz_lv 20).1 S h;unfold SzAt at this;unfold scriptM;dsimp only;omega
end Go.Proofs.YtcpmjkefbjbhpaaGreatDoor.ParseMath
