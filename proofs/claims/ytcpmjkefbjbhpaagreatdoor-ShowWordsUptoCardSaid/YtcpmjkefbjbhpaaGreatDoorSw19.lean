/-
  Proved: contracts of functions, plain facts. Conditions: as each says.
-/
import Derived.Test.YtcpmjkefbjbhpaaGreatDoorSw07
import Derived.Test.YtcpmjkefbjbhpaaGreatDoorSw13
import Derived.Great.BuildSlice
import Derived.Deep.WholeRow
import Derived.Deep.RegionLaw
import Derived.Deep.RegionHeld
import Derived.Test.YtcpmjkefbjbhpaaGreatDoorSw37
namespace Go.Proofs.YtcpmjkefbjbhpaaGreatDoor.ParseMath
open Go Go.Lib GlyphMath LexMath TreeMath
theorem signs_meta:∀s∈signsB,anyIn s metaB=true:=by decide
theorem mid_plain {t:Tk} (h:MidT t) (hk:t.kind=1) {x:List UInt8} (hp:plainT t.word=some x):anyIn x metaB=false∧x≠ []:=by
  rcases h.is with ⟨-, -,hw, -⟩|⟨h2, -⟩
  · obtain⟨p,hl,hb,rfl⟩:∃p,t.word= [p]∧bareT p=true∧x=p.text:=by
      revert hp
      match t.word with
      | []=>intro hp;cases hp
      | [p]=>
        intro hp
        cases hb:bareT p with
        |true=>
          rw[plainT,if_pos hb]at hp;exact⟨p,rfl,hb,(Option.some.inj hp).symm⟩
        |false=>
          rw[plainT,if_neg (by rw[hb];decide)]at hp
          cases hp
      |_::_::_=>intro hp;cases hp
    rw[hl]at hw
    have h1:partT (rowT 20) (decide (20<20)) p=true:=by
      unfold wordT at hw;rw[rowT,sideT]at hw;simp only[Bool.and_eq_true]at hw;exact hw.2.1
    unfold bareT at hb;simp only[Bool.and_eq_true,beq_iff_eq,Bool.not_eq_true']at hb;unfold partT at h1;rw[if_pos hb.1]at h1;simp only[Bool.and_eq_true]at h1;have h2:=h1.2.2;unfold litT at h2;rw[hb.2]at h2;simp at h2;refine⟨h2.2.2,fun e=> ?_⟩;rw[e]at h2;simp at h2
  · rw[h2]at hk;cases hk
def PS.sg (S:PS) (s:List UInt8):Bool:=S.hd.kind==2&&S.hd.text==s
def PS.wd (S:PS) (s:List UInt8):Bool:=S.hd.kind==1&&plainT S.hd.word==some s
theorem sg_is {S:PS} (h:GoodS S) {s:List UInt8} (hs:signsB.contains s=true):S.sg s=S.is s:=by
  have hm:=signs_meta s (by simpa using hs);have hn:s≠ []:=(by rintro rfl;cases hm);unfold PS.sg PS.is PS.tx textK
  rcases h.hd with ⟨e, -⟩|⟨m, -⟩
  · rw[e.kind,e.text,if_neg (by decide)]
    symm
    simpa using hn
  · rcases m.is with ⟨hk, -⟩|⟨hk, -⟩
    · rw[hk,if_pos rfl]
      symm
      show _=(false&&_);rw[Bool.false_and]
      cases hp:plainT S.hd.word with
      |none=>simpa using hn
      |some x=>
        have h1:=(mid_plain m hk hp).1;simp only[Option.getD_some,beq_eq_false_iff_ne,ne_eq];rintro rfl;rw[hm]at h1
        cases h1
    · rw[hk,if_neg (by decide)]
      rfl
theorem wd_is {S:PS} (h:GoodS S) {s:List UInt8} (hs:anyIn s metaB=false) (hn:s≠ []):S.wd s=S.is s:=by
  unfold PS.wd PS.is PS.tx textK
  rcases h.hd with ⟨e, -⟩|⟨m, -⟩
  · rw[e.kind,e.text,if_neg (by decide)]
    symm
    simpa using hn
  · rcases m.is with ⟨hk, -⟩|⟨hk, -,ht⟩
    · rw[hk,if_pos rfl]
      cases hp:plainT S.hd.word with
      |none=>
        symm
        simpa using hn
      |some x=>simp
    · rw[hk,if_neg (by decide)]
      have h1:=signs_meta S.hd.text (by simpa using ht)
      symm
      show _=(false&&_);simp only[Bool.false_and,beq_eq_false_iff_ne,ne_eq];intro e;rw[e,hs]at h1
      cases h1
theorem fail_dead {S:PS} (he:S.err≠0) (h1:S.ts.length=1) (e:Nat):S.fail e=S:=by
  obtain⟨ts,a,er⟩:=S;dsimp only at he h1;simp[PS.fail,he,h1]
theorem fail_fail {S:PS} (h:GoodS S) {e f:Nat} (he:e≠0):(S.fail e).fail f=S.fail e:=by
  refine fail_dead ?_ (fail_one h e) f;show(if S.err=0 then e else S.err)≠0
  split
  · exact he
  · assumption
theorem take_dead {S:PS} (h:GoodS S) (hd:Dead S):S.take=S:=by unfold PS.take;rw[if_pos (Dead.kind h hd)]
def RelL (Sm S':PS):Prop:=S'=Sm∨(S'.err=0∧S'.is [101,115,97,99]=true∧Sm=S'.fail 2)
theorem RelL.refl (S:PS):RelL S S:= .inl rfl
theorem want_alive {S:PS} {b:Bool} (h:(S.want b).err=0):S.err=0:=by
  apply Classical.byContradiction;intro hn;exact hn ((want_err hn b).symm.trans h)
def PS.endsR (S:PS):Bool:=S.ends||S.is [101,115,97,99]
end Go.Proofs.YtcpmjkefbjbhpaaGreatDoor.ParseMath
namespace Go.Proofs.YtcpmjkefbjbhpaaGreatDoor
open Go Go.RowKit GlyphMath LexMath TreeMath ParseMath
def Stays (w0 w:World) (F:Nat→Prop) (P:World→Prop):Prop:=∀w',Below w0.heap.size w0 w'→(∀k,F k→w'.heap[k]? =w.heap[k]?)→P w'
theorem Stays.now {w0 w:World} {F:Nat→Prop} {P:World→Prop} (h:Stays w0 w F P) (hb:Below w0.heap.size w0 w):P w:=h w hb fun _ _=>rfl
theorem Stays.same {w0 w w':World} {F:Nat→Prop} {P:World→Prop} (h:Stays w0 w F P) (hk:∀k,F k→w'.heap[k]? =w.heap[k]?):Stays w0 w' F P:=fun x hx hf=>h x hx fun k hF=>(hf k hF).trans (hk k hF)
theorem Stays.mono {w0 w:World} {F F':Nat→Prop} {P:World→Prop} (h:Stays w0 w F P) (hF:∀k,F k→F' k):Stays w0 w F' P:=fun x hx hf=>h x hx fun k hk=>hf k (hF k hk)
theorem Stays.imp {w0 w:World} {F:Nat→Prop} {P Q:World→Prop} (h:Stays w0 w F P) (hP:∀w',P w'→Q w'):Stays w0 w F Q:=fun x hx hf=>hP x (h x hx hf)
theorem Stays.of0 {w0 w:World} {P:World→Prop} (h:∀w',Below w0.heap.size w0 w'→P w'):Stays w0 w (fun _=>False) P:=fun x hx _=>h x hx
def NewAt (w0 w:World) (B:Nat) (P:World→Prop):Prop:=∃F,(∀k,F k→B≤k∧k<w.heap.size)∧Stays w0 w F P
theorem NewAt.kept {D:Nat→Prop} {w0 w w':World} {B:Nat} {P:World→Prop} (h:NewAt w0 w B P) (hk:Kept D w w') (hD:∀k,B≤k→k<w.heap.size→¬D k):NewAt w0 w' B P:=by
  obtain⟨F,h1,h2⟩:=h;exact⟨F,fun k hF=>⟨(h1 k hF).1,Nat.lt_of_lt_of_le (h1 k hF).2 hk.size⟩,h2.same fun k hF=>hk.block k (h1 k hF).2 (hD k (h1 k hF).1 (h1 k hF).2)⟩
theorem NewAt.base {w0 w:World} {B C:Nat} {P:World→Prop} (h:NewAt w0 w B P) (hC:C≤B):NewAt w0 w C P:=by
  obtain⟨F,h1,h2⟩:=h;exact⟨F,fun k hF=>⟨Nat.le_trans hC (h1 k hF).1,(h1 k hF).2⟩,h2⟩
theorem NewAt.imp {w0 w:World} {B:Nat} {P Q:World→Prop} (h:NewAt w0 w B P) (hP:∀w',P w'→Q w'):NewAt w0 w B Q:=by
  obtain⟨F,h1,h2⟩:=h;exact⟨F,h1,h2.imp hP⟩
theorem NewAt.now {w0 w:World} {B:Nat} {P:World→Prop} (h:NewAt w0 w B P) (hb:Below w0.heap.size w0 w):P w:=by
  obtain⟨F,h1,h2⟩:=h;exact h2.now hb
theorem NewAt.of0 {w0 w:World} {B:Nat} {P:World→Prop} (h:∀w',Below w0.heap.size w0 w'→P w'):NewAt w0 w B P:=⟨fun _=>False,fun _ h=>h.elim,Stays.of0 h⟩
theorem NewAt.and {w0 w:World} {B:Nat} {P Q:World→Prop} (h:NewAt w0 w B P) (k:NewAt w0 w B Q):NewAt w0 w B fun W=>P W∧Q W:=by
  obtain⟨F,h1,h2⟩:=h;obtain⟨G,k1,k2⟩:=k;exact⟨fun x=>F x∨G x,fun x hx=>hx.elim (h1 x) (k1 x),fun x hx hf=>⟨h2 x hx fun i hi=>hf i (.inl hi),k2 x hx fun i hi=>hf i (.inr hi)⟩⟩
def Cel (n:Nat) (c:List Value):Prop:=c.length=n∧∀v∈c,v.oneCell'=true
structure RowG (w0 w:World) (e sz:Nat) {α:Type} (P:World→List Value→α→Prop) (B:Nat) (v:Value) (css:List (List Value)) (l:List α) (F:Nat→Prop):Prop where
  own:w.ownsRow B e sz v l.length css.flatten
  len:css.length=l.length
  each:∀cs∈css,Cel sz cs
  sub:∀(k:Nat) (cs:List Value) (x:α),css[k]? =some cs→l[k]? =some x→Stays w0 w F fun W=>P W cs x
  far:∀k,F k→B≤k∧k<w.heap.size∧v.ownBlock≠some k
section
variable {w0 w : World} {e sz : Nat} {α : Type} {P : World → List Value → α → Prop} {B : Nat} {v : Value} {css : List (List Value)} {l : List α} {F : Nat → Prop}
theorem RowG.nil (w0 w:World) (e sz:Nat) {α:Type} (P:World→List Value→α→Prop) (B:Nat):RowG w0 w e sz P B (.slice none 0 0) [] ([]:List α) (fun _=>False):=
  ⟨World.ownsRow_nil _ _ _ _,rfl,fun _ h=>(List.not_mem_nil h).elim,fun _ _ _ h=>(by simp at h),fun _ h=>h.elim⟩
theorem RowG.lt (h:RowG w0 w e sz P B v css l F):∀k,F k∨v.ownBlock=some k→B≤k∧k<w.heap.size:=fun k hk=>hk.elim (fun hk=>⟨(h.far k hk).1,(h.far k hk).2.1⟩) fun hk=>World.ownsRow.lt h.own k hk
theorem RowG.kept {D:Nat→Prop} {w':World} (h:RowG w0 w e sz P B v css l F) (hk:Kept D w w') (hD:∀k,F k∨v.ownBlock=some k→¬D k):RowG w0 w' e sz P B v css l F where
  own:=ownsRow_same h.own fun g hg=>hk.block g (World.ownsRow.lt h.own g hg).2 (hD g (.inr hg))
  len:=h.len
  each:=h.each
  sub:=fun k cs x h1 h2=>(h.sub k cs x h1 h2).same fun i hi=>hk.block i (h.far i hi).2.1 (hD i (.inl hi))
  far:=fun k hF=>⟨(h.far k hF).1,Nat.lt_of_lt_of_le (h.far k hF).2.1 hk.size,(h.far k hF).2.2⟩
theorem RowG.shape (h:RowG w0 w e sz P B v css l F):∃a c,v= .slice a l.length c:=by
  rcases h.own.2 with ⟨hv,h0⟩|⟨g,cap,cur,hv,_⟩
  · exact⟨none,0,by rw[hv,h0]⟩
  · exact⟨_,_,hv⟩
theorem flat_len {css:List (List Value)} {sz:Nat} (h:∀cs∈css,Cel sz cs):css.flatten.length=css.length*sz:=by
  induction css with
  |nil=>simp
  |cons a r ih=>
    rw[List.flatten_cons,List.length_append,(h a (by simp)).1,ih fun cs hc=>h cs (by simp[hc]),List.length_cons,Nat.succ_mul];omega
theorem flat_get {css:List (List Value)} {sz:Nat} (h:∀cs∈css,Cel sz cs):∀(k:Nat) (cs:List Value),css[k]? =some cs→∀i,i<sz→css.flatten[k*sz+i]? =cs[i]? :=by
  induction css with
  |nil=>intro k cs hk;simp at hk
  |cons a r ih=>
    intro k cs hk i hi;have ha:=(h a (by simp)).1
    cases k with
    |zero=>
      simp only[List.getElem?_cons_zero,Option.some.injEq]at hk;subst hk;rw[List.flatten_cons,Nat.zero_mul,Nat.zero_add,List.getElem?_append_left (by omega)]
    |succ k=>
      rw[List.flatten_cons,show(k+1)*sz+i=a.length+(k*sz+i) by rw[ha,Nat.succ_mul];omega,List.getElem?_append_right (by omega),Nat.add_sub_cancel_left];exact ih (fun cs hc=>h cs (by simp[hc])) k cs (by simpa using hk) i hi
theorem RowG.spot (h:RowG w0 w e sz P B v css l F) {k:Nat} {cs:List Value} (hk:css[k]? =some cs):∃g c,v= .slice (some ⟨g,0,none⟩) l.length c∧∀i u,cs[i]? =some u→w.cell? ⟨g,k*sz+i,none⟩=some u:=by
  obtain⟨hk1,hk2⟩:=List.getElem?_eq_some_iff.1 hk
  rcases h.own.2 with ⟨_,h0⟩|⟨g,cap,cur,hv,_⟩
  · have:=h.len;omega
  · refine⟨g,cap,hv,fun i u hu=> ?_⟩
    subst hv;have hc:=h.each cs (List.mem_of_getElem? hk);have hi:i<sz:=(by have:=(List.getElem?_eq_some_iff.1 hu).1;rw[hc.1]at this;exact this);rw[World.ownsRow.cellAt h.own _ (by have:=h.len;have:=Nat.mul_le_mul_right sz (show k+1≤l.length by omega);rw[Nat.succ_mul]at this;omega),flat_get h.each k cs hk i hi];exact hu
theorem RowG.slat (h:RowG w0 w e sz P B v css l F):Stays w0 w (fun k=>F k∨v.ownBlock=some k) fun W=>(∃p c,v= .slice p l.length c∧∀(k:Nat) (cs:List Value),css[k]? =some cs→SpotAt W p k sz cs)∧∀(k:Nat) (cs:List Value) (x:α),css[k]? =some cs→l[k]? =some x→P W cs x:=by
  intro W hW hf
  have h':RowG w0 W e sz P B v css l F:= { h with
    own:=ownsRow_same h.own fun g hg=>hf g (.inr hg)
    sub:=fun k cs x h1 h2=>(h.sub k cs x h1 h2).same fun i hi=>hf i (.inl hi)
    far:=fun k hF=>⟨(h.far k hF).1,by
      have h1:=hf k (.inl hF);have h2:=(h.far k hF).2.1;rw[Array.getElem?_eq_getElem h2]at h1
      exact(gS.1 h1).1,(h.far k hF).2.2⟩ }
  refine⟨?_,fun k cs x h1 h2=>(h'.sub k cs x h1 h2).now hW⟩;obtain⟨p,c,hv⟩:=h.shape;refine⟨p,c,hv,fun k cs hk=> ?_⟩;obtain⟨g,c',hv',hc⟩:=h'.spot hk;rw[hv]at hv';simp only[Value.slice.injEq,true_and]at hv';exact⟨g,0,hv'.1,fun i u hu=>by rw[Nat.zero_add];exact hc i u hu⟩
theorem RowG.sl (h:RowG w0 w e sz P B v css l F) (hm:l.length≤maxLen):NewAt w0 w B fun W=>SlAt W sz α (fun x cs=>P W cs x) v l:=by
  refine⟨fun k=>F k∨v.ownBlock=some k,h.lt,h.slat.imp fun W hW=> ?_⟩;obtain⟨⟨p,c,hv,h1⟩,h2⟩:=hW;refine⟨⟨p,c,hv,fun k x hk=> ?_⟩,hm⟩;obtain⟨cs,hcs⟩:∃cs,css[k]? =some cs:=⟨_,List.getElem?_eq_getElem (by rw[h.len];exact(List.getElem?_eq_some_iff.1 hk).1)⟩;exact⟨cs,h1 k cs hcs,h2 k cs x hcs hk⟩
theorem RowG.nofar (h:RowG w0 w e sz P B v css l F) (hF:∀k,F k→False):RowG w0 w e sz P B v css l (fun _=>False):=
  { own:=h.own,len:=h.len,each:=h.each,sub:=fun k cs x h1 h2=>(h.sub k cs x h1 h2).mono fun i hi=>hF i hi,far:=fun _ hk=>hk.elim }
theorem RowG.add (h:RowG w0 w e sz P B v css l F) {C:Nat} {cs:List Value} {x:α} (hc:Cel sz cs) (hx:NewAt w0 w C fun W=>P W cs x) (hB:B≤C) (hv:∀k,v.ownBlock=some k→k<C)
    {w1 w2:World} (hk:Kept (fun _=>False) w w1) {g cap:Nat} (hown:w2.ownsRow B e sz (.slice (some ⟨g,0,none⟩) (l.length+1) cap) (l.length+1) (css.flatten++cs)) (hgrow:w1.grownBy w2 v.ownBlock) (hat:v.ownBlock=some g∨w.heap.size≤g):
    ∃F',RowG w0 w2 e sz P B (.slice (some ⟨g,0,none⟩) (l.length+1) cap) (css++ [cs]) (l++ [x]) F'∧(∀k,F' k→F k∨(C≤k∧k<w.heap.size)):=by
  obtain⟨F2,f1,f2⟩:=hx;have hold:∀j,j<w.heap.size→v.ownBlock≠some j→w2.heap[j]? =w.heap[j]? :=fun j hj hn=>(hgrow.block j (Nat.lt_of_lt_of_le hj hk.size) (fun e=>hn e.symm)).trans (hk.block j hj (fun h=>h));have hs:w.heap.size≤w2.heap.size:=Nat.le_trans hk.size hgrow.size
  have hne:∀j,(B≤j∧j<w.heap.size∧v.ownBlock≠some j)→B≤j∧j<w2.heap.size∧(Value.slice (some ⟨g,0,none⟩) (l.length+1) cap).ownBlock≠some j:=fun j ⟨a1,a2,a3⟩=>⟨a1,by omega,fun e=>by
    have e':g=j:=by simpa [Value.ownBlock]using e
    rcases hat with e2|e2
    · exact a3 (by rw[e2,e'])
    · omega⟩
  have hF2:∀j,F2 j→B≤j∧j<w.heap.size∧v.ownBlock≠some j:=fun j hj=>⟨Nat.le_trans hB (f1 j hj).1,(f1 j hj).2,fun e=>by have:=hv j e;have:=(f1 j hj).1;omega⟩;refine⟨fun k=>F k∨F2 k,⟨?_,?_,?_,?_,?_⟩,fun k hk=>hk.imp id fun hk=>f1 k hk⟩
  · rw[List.length_append,List.flatten_append]
    simpa using hown
  · simp[h.len]
  · intro c hcm
    rcases List.mem_append.1 hcm with h1|h1
    · exact h.each c h1
    · obtain rfl:c=cs:=by simpa using h1
      exact hc
  · intro k c y h1 h2
    rcases Nat.lt_or_ge k l.length with hl|hl
    · rw[List.getElem?_append_left (by rw[h.len];exact hl)]at h1
      rw[List.getElem?_append_left hl]at h2;exact((h.sub k c y h1 h2).same fun i hi=>hold i (h.far i hi).2.1 (h.far i hi).2.2).mono fun _ hi=> .inl hi
    · rw[List.getElem?_append_right (by rw[h.len];exact hl)]at h1
      rw[List.getElem?_append_right hl]at h2;obtain⟨i1,i2⟩:=List.getElem?_eq_some_iff.1 h1;obtain⟨j1,j2⟩:=List.getElem?_eq_some_iff.1 h2;simp only[List.length_singleton]at i1 j1;simp only[List.getElem_singleton]at i2 j2;subst i2 j2;exact(f2.same fun i hi=>hold i (hF2 i hi).2.1 (hF2 i hi).2.2).mono fun _ hi=> .inr hi
  · exact fun k hk=>hne k (hk.elim (fun hk=>h.far k hk) fun hk=>hF2 k hk)
theorem RowG.one {C:Nat} {cs:List Value} {x:α} (hc:Cel sz cs) (hx:NewAt w0 w C fun W=>P W cs x) (hB:B≤C) (hw:B≤w.heap.size):
    ∃F',RowG w0 (w.alloc (.cells cs.toArray e)) e sz P B (.slice (some ⟨w.heap.size,0,none⟩) 1 1) [cs] [x] F'∧(∀k,F' k→C≤k∧k<w.heap.size):=by
  obtain⟨F2,f1,f2⟩:=hx;refine⟨F2,⟨?_,rfl,?_,?_,?_⟩,f1⟩
  · have:=World.ownsRow_lit (base:=B) (e:=e) (size:=sz) w cs.toArray 1 hw (by decide) (by simp[hc.1])
    simpa using this
  · intro c hcm
    obtain rfl:c=cs:=(by simpa using hcm);exact hc
  · intro k c y h1 h2
    obtain⟨i1,i2⟩:=List.getElem?_eq_some_iff.1 h1;obtain⟨j1,j2⟩:=List.getElem?_eq_some_iff.1 h2;simp only[List.length_singleton]at i1 j1;simp only[List.getElem_singleton]at i2 j2;subst i2 j2;exact f2.same fun i hi=>Below.heap_alloc _ _ _ (f1 i hi).2
  · refine fun k hk=>⟨Nat.le_trans hB (f1 k hk).1,?_,fun e=> ?_⟩
    · have:=(f1 k hk).2;rw[World.size_alloc];omega
    · have e':w.heap.size=k:=by simpa [Value.ownBlock]using e
      have:=(f1 k hk).2;omega
end
def NdC (w:World) (n:Nd) (cs:List Value):Prop:=n.kids= []∧∃wv pv av rv,cs= [txt n.op,txt n.name,.slice none 0 0,wv,pv,av,rv]∧WsAt w wv n.words∧PatsAt w pv n.pats∧AsAt w av n.assigns∧AsAt w rv n.redirs
inductive TrC (w:World):List Value→Tr→Prop
  |mk (n:Nd) (kids:List Tr) (cs:List Value) (kp:Option Addr) (kc:Nat) (css:List (List Value)):NdC w n cs→css.length=kids.length→kids.length≤maxLen→
      (∀(k:Nat) (c:List Value),css[k]? =some c→SpotAt w kp k 8 c)→(∀(k:Nat) (c:List Value) (t:Tr),css[k]? =some c→kids[k]? =some t→TrC w c t)→TrC w (cs++ [.slice kp kids.length kc]) (.mk n kids)
def CapOk (v:Value):Prop:=∃p n c,v= .slice p n c∧n≤c
def ToksAt (w:World) (G o:Nat) (ts:List Tk):Prop:=∀(k:Nat) (t:Tk),ts[k]? =some t→∃u,PsAt w u t.word∧TokC w (some ⟨G,o,none⟩) k t.kind ⟨t.text.toArray⟩ u t.at_∧CapOk u
theorem tok_f0 (a d:Int) (b:ByteArray) (p:Option Addr) (n k:Nat) (w:World):(Instr.field 53 (.agg #[.int .i64 a,.string b,.slice p n k,.int .i64 d]) 0).run Tryz.prog w= .ok (.int .i64 a) w:=by kernel_rfl
theorem tok_f1 (a d:Int) (b:ByteArray) (p:Option Addr) (n k:Nat) (w:World):(Instr.field 53 (.agg #[.int .i64 a,.string b,.slice p n k,.int .i64 d]) 1).run Tryz.prog w= .ok (.string b) w:=by kernel_rfl
theorem tok_f2 (a d:Int) (b:ByteArray) (p:Option Addr) (n k:Nat) (w:World):(Instr.field 53 (.agg #[.int .i64 a,.string b,.slice p n k,.int .i64 d]) 2).run Tryz.prog w= .ok (.agg #[.slice p n k]) w:=by kernel_rfl
theorem tok_info:(Tryz.prog.info? 53).map (·.size)=some 4:=by kernel_rfl
theorem ret_tok {fn:Func} {p:Tmp} (hf:fn.results= #[.cell p 53]) {tmps:Array Value} {k:Nat} {a b c d:Value} {w:World} {t:TypeId} {fr:Nat×Nat} (h:w.heap[k]? =some (.cells #[a,b,c,d] t fr)) (h2:tmps.getD p undef= .pointer (some ⟨k,0,none⟩)):
    (results fn tmps).run Tryz.prog w= .ok (.agg #[a,b,c,d]) w:=results_cell_row hf tmps w k t #[a,b,c,d] fr _ h2 h Tryz.underlying53 rfl tok_info
theorem cell_alloc {w:World} {a:Addr} {v:Value} (h:w.cell? a=some v) (o:Obj):(w.alloc o).cell? a=some v:=((Below.refl _ w).alloc (Nat.le_refl _) o).cell (World.block_lt_of_cell? w _ h)|>.trans h
theorem kept_row0 (w:World) (g:Nat) (cs:Array Value):Kept (fun i=>i=g) w (w.setRow g cs):=
  ⟨rfl,rfl,rfl,by rw[setRow_size];exact Nat.le_refl _,fun i _ h=>setRow_other _ _ _ _ h⟩
theorem below_drewW {B:Nat} {w w':World} (h:Below B w w'):Below B w w'.drew:=⟨h.os,h.tape,h.output,h.size,h.block⟩
end Go.Proofs.YtcpmjkefbjbhpaaGreatDoor
namespace Go.Proofs.YtcpmjkefbjbhpaaGreatDoor
open Go Go.Lib GlyphMath LexMath TreeMath ParseMath
theorem parts20 {xs r:List Nat} {ps:List Pt} (hg:∀c∈xs,GoodL c) (hx:xs.length≤4000) (h:partsM 20 xs= .ok (ps,r)):ps.length≤4000:=by
  obtain⟨_,h2,_⟩:=partsL_well (braces_well (parts_well 19) false) (braces_ok (parts_ok 19) false) _ _ _ _ _ hg hx (Well.nil 20 (decide (19<19))) (Fits.nil xs hx) h;have:=h2.1;omega
theorem sign_mem:∀ {l:List (List Nat)} {xs p r:List Nat},signM l xs=some (p,r)→p∈l
  | [],_,_,_,h=>by cases h
  |q::l,xs,p,r,h=>by
    rw[signM]at h
    split at h
    · cases h;exact List.mem_cons_self ..
    · exact List.mem_cons_of_mem _ (sign_mem h)
theorem signs_B:∀p∈signs,ParseMath.signsB.contains (enc p)=true:=by decide+kernel
theorem token_mid {n:Nat} {xs r:List Nat} {t:Tk} (hn:n≤2000) (hg:∀c∈xs,GoodL c) (hl:xs.length≤4000) (hx:xs≠ []) (h32:next xs≠32) (h9:next xs≠9) (h:tokenM n xs= .ok (t,r)):MidT t:=by
  have hw:=token_word hg hl hx h32 h9 h;unfold tokenM at h
  split at h
  · rename_i p r' hs
    cases h
    exact⟨hn,.inr ⟨rfl,rfl,signs_B p (sign_mem hs)⟩⟩
  · split at h
    · cases h
    · cases hp:partsM 20 xs with
      |error e=>rw[hp]at h;cases h
      |ok a=>
        obtain⟨ps,r'⟩:=a;rw[hp]at h
        cases h
        exact⟨hn,.inl ⟨rfl,rfl,(hw rfl).1,(hw rfl).2,parts20 hg hl hp⟩⟩
theorem tokens_row {sz:Nat} (hsz:sz≤2000):∀(f:Nat) (xs:List Nat) (l ts:List Tk),(∀c∈xs,GoodL c)→xs.length≤2000→tokensL sz f xs l= .ok ts→∃r,ts=l++r∧Row r∧r.length≤xs.length+1
  |0,_,_,_,_,_,h=>by cases h
  |f+1,xs,l,ts,hg,hx,h=>by
    by_cases hk:skipM xs= []
    · rw[tokensL_end hk]at h
      cases h
      exact⟨_,rfl,.one _ ⟨rfl,rfl,rfl,hsz⟩,by simp⟩
    · cases ht:tokenM (sz-(enc (skipM xs)).length) (skipM xs)with
      |error e=>rw[tokensL_bad hk ht]at h;cases h
      |ok a=>
        obtain⟨t,r⟩:=a;rw[tokensL_go hk ht]at h;have hsu:=tskip_suf xs;obtain⟨h32,h9⟩:=skip_head xs hk;have hgs:=hsu.good hg;have hln:=hsu.len;have hm:=token_mid (by omega) hgs (by omega) hk h32 h9 ht;have hr:=token_less hgs hk h32 h9 ht;obtain⟨q,e,hq,hql⟩:=tokens_row hsz f r (l++ [t]) ts (hr.1.1.good hgs) (by have:=hr.1.2;omega) h;refine⟨t::q,by rw[e,List.append_assoc];rfl,.more t q hm hq,?_⟩;have:=hr.1.2;rw[List.length_cons];omega
theorem tokens_good {sz f:Nat} {xs:List Nat} {ts:List Tk} (hsz:sz≤2000) (hg:∀c∈xs,GoodL c) (hx:xs.length≤2000) (h:tokensL sz f xs []= .ok ts):GoodS ⟨ts,0,0⟩:=by
  obtain⟨r,e,hr,hl⟩:=tokens_row hsz f xs [] ts hg hx h;rw[List.nil_append]at e;subst e;exact⟨hr,by dsimp only;omega,Nat.zero_le _,Nat.zero_le _⟩
end Go.Proofs.YtcpmjkefbjbhpaaGreatDoor
namespace Go.Proofs.YtcpmjkefbjbhpaaGreatDoor.ParseMath
open Go Go.Lib GlyphMath LexMath TreeMath
section
variable {m : Nat} {E : Tk} {Lz ZE : List Tk} {lim : Prop}
theorem fail_ne (S:PS) {e:Nat} (he:e≠0):(S.fail e).err≠0:=by
  unfold PS.fail;dsimp only
  split
  · exact he
  · assumption
end
end Go.Proofs.YtcpmjkefbjbhpaaGreatDoor.ParseMath
