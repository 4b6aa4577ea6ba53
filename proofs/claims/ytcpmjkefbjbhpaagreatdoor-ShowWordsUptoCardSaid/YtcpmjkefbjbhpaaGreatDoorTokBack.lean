/-
  Proved: the lexer by letters takes a word that is shown as that word, or finds it too deep. Conditions: the word is one.
-/
import Derived.Test.YtcpmjkefbjbhpaaGreatDoorSw49
namespace Go.Proofs.YtcpmjkefbjbhpaaGreatDoor.ShowMath
open Go Go.Lib GlyphMath LexMath TreeMath
def Gets {α:Type} (r:Res α) (x:α×List Nat):Prop:=r= .ok x∨r= .error 3
def brK:Nat→List Nat→Res Pt
  |0=>bracesM true fun _=> .error 0
  |d+1=>bracesM false (partsM d)
theorem parts_eq:∀(k:Nat) (xs:List Nat),partsM k xs=partsL (brK k) (decide (k<20)) (xs.length+1) xs []
  |0,_=>rfl
  |d+1,xs=>by
    show partsL _ (decide (d<19)) _ _ _=_
    rw[show decide (d<19)=decide (d+1<20)from decide_eq_decide.2 (by omega)]
    rfl
theorem lit_new (ps:List Pt) (t:List UInt8) (q:Bool) (h:∀a,ps.getLast? =some a→¬(a.kind=1∧a.q=q)):lit ps t q=ps++ [⟨1,t,[],[],q⟩]:=by
  rcases List.eq_nil_or_concat ps with rfl|⟨r,p,rfl⟩
  · rfl
  · rw[List.concat_eq_append]at h ⊢
    rw[lit_last,if_neg (h p (by simp))]
theorem lit_lit (ps:List Pt) (t u:List UInt8) (q:Bool):lit (lit ps t q) u q=lit ps (t++u) q:=by
  rcases List.eq_nil_or_concat ps with rfl|⟨r,p,rfl⟩
  · have e:∀v,lit [] v q= [⟨1,v,[],[],q⟩]:=fun _=>rfl
    rw[e,e];simp[lit]
  · rw[List.concat_eq_append,lit_last,lit_last]
    by_cases hp:p.kind=1∧p.q=q
    · rw[if_pos hp,if_pos hp,lit_last,if_pos hp]
      simp[List.append_assoc]
    · rw[if_neg hp,if_neg hp,lit_last,if_pos ⟨rfl,rfl⟩]
theorem got_pre (S:Nat→Bool):∀(a b:List Nat),(∀c∈a,S c=false)→(b= []∨S (next b)=true)→got S (a++b)=a∧left S (a++b)=b
  | [],b,_,hb=>by
    cases b with
    |nil=>exact⟨rfl,rfl⟩
    |cons x r=>
      have hx:S x=true:=hb.resolve_left (by simp);simp[got,left,hx]
  |c::a,b,h,hb=>by
    obtain⟨i1,i2⟩:=got_pre S a b (fun x hx=>h x (List.mem_cons_of_mem _ hx)) hb;have hc:=h c (by simp);rw[List.cons_append];unfold got left;rw[hc,if_neg (by simp),if_neg (by simp),i1,i2];exact⟨rfl,rfl⟩
theorem esc_pre:∀(a b:List Nat),(∀c∈a,acts c=false)→escN (a++b)=a++escN b
  | [],_,_=>rfl
  |c::a,b,h=>by
    rw[List.cons_append,escN,h c (by simp),if_neg (by simp),esc_pre a b fun x hx=>h x (List.mem_cons_of_mem _ hx)];rfl
theorem got_all (S:Nat→Bool):∀l:List Nat,∀c∈got S l,S c=false
  | [],_,h=>by cases h
  |x::r,c,h=>by
    unfold got at h
    cases hx:S x with
    |true=>rw[hx,if_pos rfl]at h;cases h
    |false=>
      rw[hx,if_neg (by simp)]at h
      rcases List.mem_cons.1 h with rfl|h
      · exact hx
      · exact got_all S r c h
theorem acts_three (c:Nat) (h:acts c=false):c≠34∧c≠36∧c≠92:=by
  unfold acts at h;simp only[Bool.or_eq_false_iff,beq_eq_false_iff_ne]at h;exact⟨h.1.1,h.1.2,h.2⟩
theorem takes_no {p:Nat} {ps xs:List Nat} (h:next xs≠p∨xs= []):takes (p::ps) xs=none:=by
  cases xs with
  |nil=>rfl
  |cons x r=>
    have:p≠x:=fun e=>(h.resolve_right (by simp)) e.symm;rw[takes,if_neg this]
theorem quote_loop (br:List Nat→Res Pt):∀(n:Nat) (ls rest:List Nat) (ps:List Pt) (f:Nat),ls.length≤n→(∀c∈ls,GoodL c)→(escN ls).length+1≤f→
    doubleL br f (escN ls++34::rest) ps= .ok (if ls= []then ps else lit ps (enc ls) true,rest)
  |n,[],rest,ps,f+1,_,_,_=>by
    show doubleL br (f+1) (34::rest) ps=_;rw[doubleL,takes,if_pos rfl,takes];rfl
  |n+1,c::r,rest,ps,f+1,hn,hg,hf=>by
    have hc:=hg c (by simp);rw[if_neg (by simp)]
    by_cases ha:acts c=true
    · have e:escN (c::r)=92::c::escN r:=by rw[escN,if_pos ha]
      rw[e]at hf ⊢
      have hw:withinM br (92::c::escN r++34::rest) ps= .ok (lit ps (enc [c]) true,escN r++34::rest):=by
        unfold withinM;rw[if_neg (by show ¬(92:Nat)=0;decide),if_pos (by rfl)];unfold escapedWithinM;show Except.ok (lit (if acts c then ps else lit ps [92] true) (enc [c]) true,escN r++34::rest)=_;rw[if_pos ha]
      rw[doubleL,takes_no (.inl (by show(92:Nat)≠34;decide)),hw];simp only;simp only[List.length_cons]at hf hn;rw[quote_loop br n r rest _ f (by omega) (fun x hx=>hg x (List.mem_cons_of_mem _ hx)) (by omega)]
      split
      · rename_i e;subst e;rfl
      · rw[lit_lit,←enc_append];rfl
    · have ha:acts c=false:=by simpa using ha
      obtain⟨a,ha2⟩:∃a,got acts (c::r)=a:=⟨_,rfl⟩;obtain⟨b,hb2⟩:∃b,left acts (c::r)=b:=⟨_,rfl⟩;have hab:c::r=a++b:=(by rw[←ha2,←hb2];exact(got_left acts (c::r)).symm);have hal:=got_all acts (c::r);rw[ha2]at hal;have hbl:=left_head acts (c::r);rw[hb2]at hbl;have ha1:a≠ []:=(by rw[←ha2];unfold got;rw[ha];simp);have hE:escN (c::r)=a++escN b:=(by rw[hab];exact esc_pre a b hal)
      have hG:got acts (escN (c::r)++34::rest)=a∧left acts (escN (c::r)++34::rest)=escN b++34::rest:=by
        rw[hE,List.append_assoc];refine got_pre acts a _ hal (.inr ?_)
        cases b with
        |nil=>rfl
        |cons x y=>
          have hx:acts x=true:=hbl.resolve_left (by simp);rw[escN,if_pos hx];rfl
      have h3:=acts_three c ha;have hnx:next (escN (c::r)++34::rest)=c:=(by rw[escN,ha];rfl)
      have hw:withinM br (escN (c::r)++34::rest) ps= .ok (lit ps (enc a) true,escN b++34::rest):=by
        unfold withinM;rw[hnx,if_neg (by have:=hc.1;omega),if_neg h3.2.2,if_neg h3.2.1,hG.1,hG.2]
      rw[doubleL,takes_no (.inl (by rw[hnx];exact h3.1)),hw];simp only;have hl:=congrArg List.length hab;have hl2:=congrArg List.length hE;simp only[List.length_cons,List.length_append]at hl hl2 hn;have hpos:0<a.length:=List.length_pos_iff.2 ha1;rw[quote_loop br n b rest _ f (by omega) (fun x hx=>hg x (by rw[hab];exact List.mem_append_right _ hx)) (by omega)]
      split
      · rename_i e;subst e;rw[hab,List.append_nil]
      · rw[lit_lit,←enc_append,←hab]
theorem quote_back (br:List Nat→Res Pt) (ls rest:List Nat) (ps:List Pt) (hg:∀c∈ls,GoodL c):doubleM br (34::(escN ls++34::rest)) ps= .ok (lit ps (enc ls) true,rest):=by
  unfold doubleM;rw[List.tail_cons]
  cases ls with
  |nil=>
    rw[if_pos (by rfl),quote_loop br 0 [] rest _ _ (by simp) hg (by simp[escN])];rfl
  |cons c r=>
    have hnx:next (escN (c::r)++34::rest)≠34:=by
      rw[escN]
      by_cases ha:acts c=true
      · rw[if_pos ha];show(92:Nat)≠34;decide
      · rw[if_neg ha];exact(acts_three c (by simpa using ha)).1
    rw[if_neg hnx,quote_loop br (c::r).length (c::r) rest _ _ (Nat.le_refl _) hg (by simp;omega),if_neg (by simp)]
theorem reckons_byte (c:UInt8):reckT c=reckons c.toNat:=by
  have h:(List.range 256).all (fun n=>reckT (UInt8.ofNat n)==reckons n)=true:=(by decide+kernel);have h1:=List.all_eq_true.1 h c.toNat (List.mem_range.2 c.toNat_lt);have h2:UInt8.ofNat c.toNat=c:=(by simp);rw[h2]at h1
  simpa using h1
theorem arith_back (rest:List Nat):∀(t:List UInt8) (n:Nat) (acc:List Nat),arithT t n=true→arithM (t.map (·.toNat)++41::41::rest) n acc= .ok (acc++t.map (·.toNat),rest)
  | [],n,acc,h=>by
    obtain rfl:n=0:=(by simpa [arithT]using h);show arithM (41::41::rest) 0 acc=_;rw[arithM,if_pos ⟨rfl,rfl⟩,if_pos (by rfl),List.tail_cons,List.map_nil,List.append_nil]
  |c::r,n,acc,h=>by
    rw[arithT]at h;rw[List.map_cons,List.cons_append,arithM]
    have hap:∀m,arithT r m=true→arithM (r.map (·.toNat)++41::41::rest) m (acc++ [c.toNat])= .ok (acc++c.toNat::r.map (·.toNat),rest):=fun m hm=>by
      rw[arith_back rest r m _ hm,List.append_assoc];rfl
    by_cases h40:c=40
    · subst h40
      rw[if_pos rfl]at h;rw[if_neg (by rintro⟨-,e⟩;revert e;decide),if_pos (by decide),if_pos (by decide)];exact hap _ h
    · have n40:c.toNat≠40:=fun e=>h40 (UInt8.toNat_inj.1 e)
      rw[if_neg h40]at h
      by_cases h41:c=41
      · subst h41
        rw[if_pos rfl,Bool.and_eq_true]at h;have hn:n≠0:=(by simpa using h.1);rw[if_neg (fun e=>hn e.1),if_pos (by decide),if_neg (by decide),if_pos (by decide)];exact hap _ h.2
      · have n41:c.toNat≠41:=fun e=>h41 (UInt8.toNat_inj.1 e)
        rw[if_neg h41,Bool.and_eq_true]at h;have hr:=h.1;rw[reckons_byte]at hr;rw[if_neg (fun e=>n41 e.2),if_pos hr,if_neg n40,if_neg n41];exact hap _ h.2
theorem param_other {t:List UInt8} (h:otherT t=true) (xs:List Nat):∃c,lt t= [c]∧other c=true∧parameterM (lt t++xs)= .ok (lt t,xs):=by
  obtain⟨c,rfl,ho,h0⟩:=other_low h;have e:lt [c]= [c.toNat]:=(lt_low (t:= [c]) fun b hb=>by rw[List.mem_singleton.1 hb];exact h0).2.2;refine⟨c.toNat,e,ho,?_⟩;rw[e];unfold parameterM;show(if other c.toNat then _ else _)=_;rw[if_pos ho];rfl
theorem first_more {r:Nat} (h:firstR r=true):moreR r=true∧other r=false∧r≠125∧r≠35∧r≠0:=by
  unfold firstR at h;simp only[decide_eq_true_eq]at h;refine⟨by unfold moreR firstR;simp only[Bool.or_eq_true,decide_eq_true_eq];omega,?_,by omega,by omega,by omega⟩;unfold other;simp only[Bool.or_eq_false_iff,decide_eq_false_iff_not,beq_eq_false_iff_ne];omega
theorem param_name {t:List UInt8} (h:nameT t=true) (xs:List Nat) (hx:moreR (next xs)=false):∃c r,lt t=c::r∧firstR c=true∧parameterM (lt t++xs)= .ok (lt t,xs):=by
  have hn:nameL (lt t)=true:=h
  obtain⟨c,r,e⟩:∃c r,lt t=c::r:=by
    cases hl:lt t with
    |nil=>rw[hl]at hn;cases hn
    |cons c r=>exact⟨c,r,rfl⟩
  have hn2:=hn;rw[e]at hn2;unfold nameL at hn2;simp only[Bool.and_eq_true,List.all_eq_true]at hn2;have hf:=hn2.1.1;refine⟨c,r,e,hf,?_⟩
  have hg:=got_pre (fun r=> !moreR r) (lt t) xs (fun x hx=>by rw[e]at hx;simp[hn2.1.2 x hx]) (by
    cases xs with
    |nil=>exact .inl rfl
    |cons x y=>exact .inr (by show(!moreR x)=true;rw[show moreR (x:Int)=false from hx];rfl))
  unfold parameterM;rw[hg.1,hg.2,show next (lt t++xs)=c by rw[e];rfl,(first_more hf).2.1,hn,if_neg (by simp),if_pos rfl]
theorem param_any {t:List UInt8} (h:(nameT t=true∧otherT t=false)∨otherT t=true) (xs:List Nat) (hx:moreR (next xs)=false):parameterM (lt t++xs)= .ok (lt t,xs):=by
  rcases h with h|h
  · obtain⟨_,_,_,_,e⟩:=param_name h.1 xs hx;exact e
  · obtain⟨_,_,_,e⟩:=param_other h xs;exact e
theorem close_back (p:Pt) (rest:List Nat):closeM p (125::rest)= .ok (p,rest):=by
  unfold closeM;rw[takes,if_pos rfl,takes]
def innerN (row:List Pt→List Nat) (p:Pt):List Nat:=if p.op= [35]then 35::(lt p.text++ [125])else lt p.text++(p.op.map (·.toNat)++(row p.word++ [125]))
theorem bare_var (row:List Pt→List Nat) (p:Pt) (hk:p.kind=2):bareN row p=36::123::innerN row p:=by
  unfold bareN innerN;rw[if_pos hk]
  split<;>rfl
theorem row_nil:∀k,rowN k []= []
  |0=>rfl
  |_+1=>rfl
def RowBack (d:Nat):Prop:=∀(ps:List Pt) (rest:List Nat),RowOk (d+1) ps→(rest= []∨ends (next rest) (decide (d<20))=true)→Gets (partsM d (rowN (d+1) ps++rest)) (ps,rest)
theorem brace_back {k:Nat} (hk:k≤20) (ih:∀d,k=d+1→RowBack d) {p:Pt} (hp:varT (rowT k) p=true) (rest:List Nat):Gets (brK k (innerN (rowN k) p++rest)) (⟨2,p.text,p.op,p.word,false⟩,rest):=by
  match k,hk,ih,hp with
  |0,_,_,_=>exact .inr rfl
  |d+1,hk,ih,hp=>
    obtain⟨ht,ho⟩:=var_text hp;obtain⟨hl, -⟩:=var_low hp;obtain⟨e1, -, -⟩:=lt_low hl;show Gets (bracesM false (partsM d) _) _;unfold bracesM innerN;rw[if_neg (by simp)]
    rcases ho with ⟨ho,hw⟩|⟨ho,hn,hw⟩|⟨ho,hw⟩
    · rw[ho,hw,if_neg (by simp),row_nil,List.map_nil,List.nil_append,List.nil_append,List.append_assoc,param_any ht _ (by show moreR ((125:Nat):Int)=false;decide)]
      simp only;rw[if_pos (by rfl),e1];exact .inl (close_back _ _)
    · rw[ho,hw,if_pos rfl]
      have hpo:parameterM (35::(lt p.text++ [125])++rest)= .ok ([35],lt p.text++125::rest):=by
        unfold parameterM;rw[show next (35::(lt p.text++ [125])++rest)=35 from rfl,if_pos (by decide)];simp
      obtain⟨c,r,ec,hf,hpn⟩:=param_name hn (125::rest) (by show moreR ((125:Nat):Int)=false;decide);have hnx:next (lt p.text++125::rest)=c:=(by rw[ec];rfl);rw[hpo];simp only;rw[hnx,if_neg (first_more hf).2.2.1];unfold operationM;rw[hnx,if_pos ⟨rfl,hf⟩,hpn];simp only;rw[e1];exact .inl (close_back _ _)
    · have hne:p.op≠ [35]:=by rcases ho with ⟨e, -⟩|e|e<;>rw[e]<;>simp
      obtain⟨y,hy,hop⟩:∃y:Nat,p.op.map (·.toNat)= [58,y]∧∀xs,opM (nameL (lt p.text)) (58::y::xs)=some (p.op,xs):=by
        rcases ho with ⟨e,hn⟩|e|e
        · refine⟨61,by rw[e];rfl,fun xs=> ?_⟩
          unfold opM;rw[show nameL (lt p.text)=true from hn,e];simp[takes]
        · refine⟨45,by rw[e];rfl,fun xs=> ?_⟩
          unfold opM;rw[e];simp[takes]
        · refine⟨43,by rw[e];rfl,fun xs=> ?_⟩
          unfold opM;rw[e];simp[takes]
      rw[if_neg hne,hy,List.append_assoc,List.append_assoc,param_any ht _ (by show moreR (58:Nat)=false;decide)];simp only;rw[if_neg (by show ¬(58:Nat)=125;decide)];unfold operationM;rw[if_neg (by rintro⟨-,e⟩;revert e;show ¬firstR (58:Nat)=true;decide)];simp only[List.cons_append,List.nil_append];rw[hop];simp only
      try rw[List.append_assoc]
      rcases ih d rfl p.word (125::rest) (.inr hw) (.inr (by rw[decide_eq_true (by omega)];rfl))with h|h
      · rw[show ([125]++rest:List Nat)=125::rest from rfl,h]
        simp only;rw[e1];exact .inl (close_back _ _)
      · rw[show ([125]++rest:List Nat)=125::rest from rfl,h]
        exact .inr rfl
theorem dollar_back {k:Nat} (hk:k≤20) (ih:∀d,k=d+1→RowBack d) {wi:Bool} {p:Pt} (hp:partT (rowT k) wi p=true) (h1:p.kind≠1) (rest:List Nat) (acc:List Pt):
    Gets (dollarM (brK k) p.q (bareN (rowN k) p++rest) acc) (acc++ [p],rest):=by
  rcases part_kind hp with h|h|h
  · exact absurd h.1 h1
  · have hv:=var_shape hp h
    rw[bare_var _ _ h];unfold dollarM;rw[List.cons_append,List.cons_append,List.tail_cons,takes,if_pos rfl,takes];simp only
    rcases brace_back hk ih hv rest with e|e
    · rw[e]
      left;show Except.ok (acc++ [_],rest)=_;obtain⟨kd,tx,op,wd,q⟩:=p;obtain rfl:kd=2:=h;rfl
    · rw[e];exact .inr rfl
  · obtain⟨ho,hw,ha⟩:=arith_text hp h
    obtain⟨e1, -,e3⟩:=lt_low (arith_low _ _ ha);have e:bareN (rowN k) p=36::40::40::(lt p.text++ [41,41]):=(by unfold bareN;rw[if_neg (by omega)];rfl);rw[e];unfold dollarM;rw[List.cons_append,List.cons_append,List.cons_append,List.tail_cons,takes_no (.inl (by show(40:Nat)≠123;decide))];simp only;rw[takes,if_pos rfl,takes,if_pos rfl,takes];simp only;rw[List.append_assoc,e3];have:=arith_back rest p.text 0 [] ha;rw[show (p.text.map (·.toNat)++([41,41]++rest):List Nat)=p.text.map (·.toNat)++41::41::rest from rfl,this];left;show Except.ok (acc++ [_],rest)=_;rw[List.nil_append,←e3,e1];obtain⟨kd,tx,op,wd,q⟩:=p;obtain rfl:kd=3:=h;obtain rfl:op= []:=ho;obtain rfl:wd= []:=hw;rfl
theorem one_no {a p:Pt} (hp:p.kind=1) (h:oneT a p=false):¬(a.kind=1∧a.q=p.q):=by
  rintro⟨h1,h2⟩;unfold oneT at h;rw[h1,hp,h2]at h;simp at h
theorem lit_letters {wi:Bool} {p:Pt} (h:litT wi p=true) (hq:p.q=false):lt p.text≠ []∧∀c∈lt p.text,(begins c||ends c wi)=false:=by
  obtain⟨ht, -⟩:=lit_text h;obtain⟨e1,e2⟩:=lt_text ht;unfold litT at h;rw[hq,Bool.false_or,Bool.and_eq_true,Bool.and_eq_true,Bool.not_eq_true',Bool.not_eq_true']at h;refine⟨fun e=> ?_,fun c hc=> ?_⟩
  · rw[e]at e1
    have:p.text= []:=e1.symm;rw[this]at h;exact Bool.noConfusion h.2.1
  · by_cases hlow:c<128
    · have hm:=mem_enc hc hlow
      rw[e1]at hm
      have hn:(if wi then metaW else metaB).contains (UInt8.ofNat c)=false:=by
        have:=h.2.2;unfold anyIn at this
        exact Bool.eq_false_iff.2 fun x=>by
          have:=List.any_eq_false.1 this _ hm;exact this x
      have hall:(List.range 128).all (fun n=>(metaW.contains (UInt8.ofNat n)|| !(begins n||ends n true))&&(metaB.contains (UInt8.ofNat n)|| !(begins n||ends n false)))=true:=(by decide+kernel);have:=List.all_eq_true.1 hall c (List.mem_range.2 hlow);rw[Bool.and_eq_true,Bool.or_eq_true,Bool.or_eq_true,Bool.not_eq_true',Bool.not_eq_true']at this
      cases wi
      · rcases this.2 with h|h
        · rw[if_neg (by simp),h]at hn;cases hn
        · exact h
      · rcases this.1 with h|h
        · rw[if_pos rfl,h]at hn;cases hn
        · exact h
    · have hb:begins c=false:=by unfold begins acts;simp only[Bool.or_eq_false_iff,beq_eq_false_iff_ne];omega
      have he:ends c wi=false:=by
        unfold ends
        cases wi
        · rw[if_neg (by simp)]
          unfold blankR;simp only[Bool.or_eq_false_iff,beq_eq_false_iff_ne,decide_eq_false_iff_not];omega
        · rw[if_pos rfl,beq_eq_false_iff_ne];omega
      rw[hb,he];rfl
theorem part_back {k:Nat} (hk:k≤20) (ih:∀d,k=d+1→RowBack d) {p:Pt} (hp:partT (rowT k) (decide (k<20)) p=true) (acc:List Pt) (hg:∀a,acc.getLast? =some a→oneT a p=false) (R:List Nat)
    (hR:p.kind=1→p.q=false→R= []∨(begins (next R)||ends (next R) (decide (k<20)))=true):
    Gets (partM (brK k) (decide (k<20)) (partN (rowN k) p++R) acc) (acc++ [p],R)∧next (partN (rowN k) p++R)≠0∧ends (next (partN (rowN k) p++R)) (decide (k<20))=false:=by
  have e34:ends 34 (decide (k<20))=false:=(by cases decide (k<20)<;>decide);have e36:ends 36 (decide (k<20))=false:=(by cases decide (k<20)<;>decide)
  by_cases h1:p.kind=1
  · obtain⟨ho,hw,hl⟩:=lit_shape hp h1
    obtain⟨ht, -⟩:=lit_text hl;obtain⟨e1,e2⟩:=lt_text ht
    have hpp:acc++ [⟨1,p.text,[],[],p.q⟩]=acc++ [p]:=by
      obtain⟨kd,tx,op,wd,q⟩:=p;obtain rfl:kd=1:=h1;obtain rfl:op= []:=ho;obtain rfl:wd= []:=hw;rfl
    cases hq:p.q with
    |true=>
      have e:partN (rowN k) p=34::(escN (lt p.text)++ [34]):=(by unfold partN;rw[if_pos h1,hq,if_pos rfl]);rw[e];have e':34::(escN (lt p.text)++ [34])++R=34::(escN (lt p.text)++34::R):=(by simp);rw[e'];refine⟨.inl ?_,by show(34:Nat)≠0;decide,e34⟩;unfold partM;rw[show next (34::(escN (lt p.text)++34::R))=34 from rfl,if_neg (by decide),if_neg (by decide),if_pos rfl,quote_back _ _ _ _ e2,e1,lit_new _ _ _ fun a ha=>by rw[←hq];exact one_no h1 (hg a ha)];rw[←hpp,hq]
    |false=>
      have e:partN (rowN k) p=lt p.text:=(by unfold partN;rw[if_pos h1,hq,if_neg (by simp)]);rw[e];obtain⟨hne,hall⟩:=lit_letters hl hq;have hgp:=got_pre (fun r=>begins r||ends r (decide (k<20))) (lt p.text) R hall (hR h1 hq)
      obtain⟨c,r,ec⟩:∃c r,lt p.text=c::r:=by
        cases h:lt p.text with
        |nil=>exact absurd h hne
        |cons c r=>exact⟨c,r,rfl⟩
      have hc:=hall c (by rw[ec];simp);rw[Bool.or_eq_false_iff]at hc;have hcg:=e2 c (by rw[ec];simp);have hnx:next (lt p.text++R)=c:=(by rw[ec];rfl);have hb:=hc.1;unfold begins acts at hb;simp only[Bool.or_eq_false_iff,beq_eq_false_iff_ne]at hb;refine⟨.inl ?_,by rw[hnx];have:=hcg.1;omega,by rw[hnx];exact hc.2⟩;unfold partM;rw[hnx,if_neg hb.2.2,if_neg hb.1,if_neg hb.2.1.1,if_neg hb.2.1.2,hgp.1,hgp.2,e1,lit_new _ _ _ fun a ha=>by rw[←hq];exact one_no h1 (hg a ha)];rw[←hpp,hq]
  · have hb36:∀R,next (bareN (rowN k) p++R)=36:=fun R=>by
      unfold bareN
      split
      · split<;>rfl
      · rfl
    cases hq:p.q with
    |true=>
      have e:partN (rowN k) p++R=34::(bareN (rowN k) p++34::R):=(by unfold partN;rw[if_neg h1,hq,if_pos rfl];simp);rw[e];refine⟨?_,by show(34:Nat)≠0;decide,e34⟩;unfold partM;rw[show next (34::(bareN (rowN k) p++34::R))=34 from rfl,if_neg (by decide),if_neg (by decide),if_pos rfl];unfold doubleM;rw[List.tail_cons,hb36,if_neg (by decide)];have hlen:∃f,(34::(bareN (rowN k) p++34::R)).length+1=f+1+1:=⟨_,rfl⟩;obtain⟨f,hf⟩:=hlen;rw[hf,doubleL,takes_no (.inl (by rw[hb36];decide))];unfold withinM;rw[hb36,if_neg (by decide),if_neg (by decide),if_pos rfl];have hd:=dollar_back hk ih hp h1 (34::R) acc;rw[hq]at hd
      rcases hd with hd|hd
      · rw[hd]
        left;show doubleL (brK k) (f+1) (34::R) (acc++ [p])=_;rw[doubleL,takes,if_pos rfl,takes]
      · rw[hd];exact .inr rfl
    |false=>
      have e:partN (rowN k) p=bareN (rowN k) p:=(by unfold partN;rw[if_neg h1,hq,if_neg (by simp)]);rw[e];refine⟨?_,by rw[hb36];decide,by rw[hb36];exact e36⟩;unfold partM;rw[hb36,if_neg (by decide),if_neg (by decide),if_neg (by decide),if_pos rfl];have hd:=dollar_back hk ih hp h1 R acc
      rwa [hq]at hd
theorem part_first {k:Nat} {p:Pt} (h:¬(p.kind=1∧p.q=false)) (R:List Nat):begins (next (partN (rowN k) p++R))=true:=by
  unfold partN
  by_cases h1:p.kind=1
  · have hq:p.q=true:=by
      cases hq:p.q with
      |true=>rfl
      |false=>exact absurd ⟨h1,hq⟩ h
    rw[if_pos h1,hq,if_pos rfl];rfl
  · rw[if_neg h1]
    cases p.q
    · rw[if_neg (by simp)]
      unfold bareN
      split
      · split<;>rfl
      · rfl
    · rw[if_pos rfl];rfl
theorem row_step {k:Nat} (hk:k≤20) (ih:∀d,k=d+1→RowBack d) (rest:List Nat) (hrest:rest= []∨ends (next rest) (decide (k<20))=true):∀(ps:List Pt) (a:Option Pt) (acc:List Pt) (f:Nat),sideT (partT (rowT k) (decide (k<20))) a ps=true→acc.getLast? =a→
    ((ps.map (partN (rowN k))).flatten++rest).length+1≤f→Gets (partsL (brK k) (decide (k<20)) f ((ps.map (partN (rowN k))).flatten++rest) acc) (acc++ps,rest)
  | [],a,acc,f+1,_,_,_=>by
    left;show partsL _ _ (f+1) rest acc=_;rw[partsL,if_pos,List.append_nil]
    rcases hrest with h|h
    · rw[h];exact .inl rfl
    · exact .inr h
  |p::r,a,acc,f+1,hs,ha,hf=>by
    rw[sideT,Bool.and_eq_true,Bool.and_eq_true,Bool.not_eq_true']at hs;obtain⟨hp,hone,hr⟩:=hs;rw[List.map_cons,List.flatten_cons,List.append_assoc]at hf ⊢
    have hglue:∀x,acc.getLast? =some x→oneT x p=false:=fun x hx=>by
      rw[←ha,hx]at hone;exact hone
    obtain⟨h1,h2,h3⟩:=part_back hk ih hp acc hglue ((r.map (partN (rowN k))).flatten++rest) (by
      intro hk1 hq
      cases r with
      |nil=>
        rcases hrest with h|h
        · exact .inl h
        · exact .inr (by show(_||ends (next rest) _)=true;rw[h,Bool.or_true])
      |cons p' r'=>
        right;rw[sideT,Bool.and_eq_true,Bool.and_eq_true,Bool.not_eq_true']at hr;have ho:oneT p p'=false:=hr.2.1;rw[List.map_cons,List.flatten_cons,List.append_assoc,part_first,Bool.true_or];rintro⟨g1,g2⟩
        exact one_no g1 ho ⟨hk1,by rw[hq,g2]⟩)
    have hlen:0<(partN (rowN k) p).length:=by
      cases hpn:partN (rowN k) p with
      |nil=>
        rw[hpn]at h2;exfalso;unfold partN at hpn
        by_cases hk1:p.kind=1
        · rw[if_pos hk1]at hpn
          cases hq:p.q with
          |true=>rw[hq,if_pos rfl]at hpn;cases hpn
          |false=>
            rw[hq,if_neg (by simp)]at hpn;exact(lit_letters (lit_shape hp hk1).2.2 hq).1 hpn
        · rw[if_neg hk1]at hpn
          cases hq:p.q with
          |true=>rw[hq,if_pos rfl]at hpn;cases hpn
          |false=>
            rw[hq,if_neg (by simp)]at hpn;unfold bareN at hpn
            split at hpn
            · split at hpn<;>cases hpn
            · cases hpn
      |cons _ _=>simp
    rw[partsL,if_neg (by rw[h3];rintro(e|e);exact h2 e;cases e)]
    rcases h1 with h1|h1
    · rw[h1]
      simp only;have:=row_step hk ih rest hrest r (some p) (acc++ [p]) f hr (by simp) (by simp only[List.length_append]at hf ⊢;omega)
      rwa [List.append_assoc]at this
    · rw[h1];exact .inr rfl
theorem row_back:∀k,k≤20→RowBack k
  |0,hk=>by
    intro ps rest hps hrest;rw[parts_eq]
    have:=row_step (k:=0) hk (fun d e=>by omega) rest hrest ps none [] (((ps.map (partN (rowN 0))).flatten++rest).length+1) (by
      rcases hps with rfl|h
      · rfl
      · exact h) rfl (Nat.le_refl _)
    rwa [List.nil_append]at this
  |d+1,hk=>by
    intro ps rest hps hrest;rw[parts_eq]
    have:=row_step (k:=d+1) hk (fun d' e=>by
      obtain rfl:d'=d:=by omega
      exact row_back d' (by omega)) rest hrest ps none [] (((ps.map (partN (rowN (d+1)))).flatten++rest).length+1) (by
      rcases hps with rfl|h
      · rfl
      · exact h) rfl (Nat.le_refl _)
    rwa [List.nil_append]at this
def giveP:List Pt→List Pt
  | []=> [⟨1,[97,61],[],[],false⟩]
  |p::r=>if p.kind=1∧p.q=false then { p with text:= [97,61]++p.text } ::r else⟨1,[97,61],[],[],false⟩::p::r
theorem lt_ahead {t:List UInt8} (h:isText (T t)=true):isText (T ([97,61]++t))=true∧lt ([97,61]++t)= [97,61]++lt t:=by
  have h0:firstBad (T [97,61])=none:=firstBad_low (T [97,61]) (by decide);have e:T ([97,61]++t)=T [97,61]++T t:=T_append _ _;have hl:letters (T [97,61])= [97,61]:=letters_low (T [97,61]) (by decide);constructor
  · unfold isText
    rw[e,firstBad_append _ _ h0,text_none h];rfl
  · unfold lt
    rw[e,letters_append _ _ h0,hl]
theorem give_row {ps:List Pt} (h:wordT ps=true):RowOk 21 (giveP ps)∧rowN 21 (giveP ps)= [97,61]++rowN 21 ps:=by
  unfold wordT at h;rw[Bool.and_eq_true]at h;obtain⟨hne,hr⟩:=h;have hr:sideT (partT (rowT 20) false) none ps=true:=hr;have hz:lt [97,61]= [97,61]:=letters_low (T [97,61]) (by decide)
  have hz2:partT (rowT 20) false ⟨1,[97,61],[],[],false⟩=true:=by
    unfold partT litT;simp only[if_pos];have:textT [97,61]=true:=(by unfold textT isText;rw[firstBad_low (T [97,61]) (by decide)];rfl);rw[this];decide
  cases ps with
  |nil=>cases hne
  |cons p r=>
    rw[sideT,Bool.and_eq_true,Bool.and_eq_true]at hr;obtain⟨hp, -,hr2⟩:=hr
    have eg:giveP (p::r)=if p.kind=1∧p.q=false then { p with text:= [97,61]++p.text } ::r else⟨1,[97,61],[],[],false⟩::p::r:=rfl
    rw[eg]
    split
    · rename_i hk
      obtain⟨ho,hw,hl⟩:=lit_shape hp hk.1;obtain⟨ht, -⟩:=lit_text hl;have hla:=lt_ahead ht;constructor
      · right
        show sideT (partT (rowT 20) false) none _=true;rw[sideT,Bool.and_eq_true,Bool.and_eq_true];refine⟨?_,rfl,?_⟩
        · have hp':=hp
          unfold partT at hp' ⊢;simp only;rw[if_pos hk.1]at hp' ⊢;rw[Bool.and_eq_true,Bool.and_eq_true]at hp' ⊢;refine⟨hp'.1,hp'.2.1,?_⟩;have h3:=hp'.2.2;unfold litT textT at h3 ⊢;simp only;rw[hk.2,Bool.false_or,Bool.and_eq_true,Bool.and_eq_true]at h3 ⊢;refine⟨hla.1,by simp,?_⟩;rw[Bool.not_eq_true']at h3 ⊢;have:=h3.2.2;rw[Bool.not_eq_true']at this;unfold anyIn at this ⊢;rw[List.any_append,this,Bool.or_false]
          decide
        · cases r with
          |nil=>rfl
          |cons p' r'=>
            rw[sideT]at hr2 ⊢;exact hr2
      · show partN (rowN 20) { p with text:= [97,61]++p.text } ++_= [97,61]++(partN (rowN 20) p++_)
        unfold partN;simp only;rw[if_pos hk.1,if_pos hk.1,hk.2,if_neg (by simp),if_neg (by simp),hla.2,List.append_assoc]
    · rename_i hk
      constructor
      · right
        show sideT (partT (rowT 20) false) none _=true;rw[sideT,Bool.and_eq_true,Bool.and_eq_true];refine⟨hz2,rfl,?_⟩;rw[sideT,Bool.and_eq_true,Bool.and_eq_true];refine⟨hp,?_,hr2⟩;rw[Bool.not_eq_true'];show oneT ⟨1,[97,61],[],[],false⟩ p=false;unfold oneT;simp only
        cases hq:p.q with
        |true=>simp
        |false=>
          have:(p.kind==1)=false:=beq_eq_false_iff_ne.2 fun e=>hk ⟨e,hq⟩;rw[this];rfl
      · show partN (rowN 20) ⟨1,[97,61],[],[],false⟩++_=_
        unfold partN;simp only[if_pos];rw[if_neg (by simp),hz];rfl
theorem tokens_shown {ps:List Pt} (h:wordT ps=true):(∃sz,tokensM ([97,61]++rowN 21 ps)= .ok [⟨1,[],giveP ps,0⟩,⟨3,[],[],sz⟩])∨∃n,tokensM ([97,61]++rowN 21 ps)= .error (n,3):=by
  obtain⟨h1,h2⟩:=give_row h;have hb:=row_back 20 (by omega) (giveP ps) [] h1 (.inl rfl);rw[List.append_nil,h2]at hb;obtain⟨xs,hxs⟩:∃xs,[97,61]++rowN 21 ps=xs:=⟨_,rfl⟩;obtain⟨r,hr⟩:∃r,xs=97::r:=⟨61::rowN 21 ps,hxs.symm⟩;rw[hxs]at hb ⊢
  have hsk:skipM xs=xs:=by
    have e:left (fun r=>r !=32&&r !=9) xs=xs:=(by rw[hr];rfl);unfold skipM;rw[e,hr,if_neg (by show ¬(97:Nat)=35;decide)]
  have hne:skipM xs≠ []:=(by rw[hsk,hr];simp);have hsg:signM signs xs=none:=(by rw[hr];rfl);unfold tokensM;have hlen:∃f,xs.length+1=f+1+1:=⟨r.length,by rw[hr];simp⟩;obtain⟨f,hf⟩:=hlen;rw[hf]
  have ht:∀n,tokenM n xs=match partsM 20 xs with| .error e=> .error e| .ok (ps,r)=> .ok (⟨1,[],ps,n⟩,r):=fun n=>by
    unfold tokenM;rw[hsg];simp only;rw[if_neg (by rw[hr];show ¬(97:Nat)=38;decide)];rfl
  rcases hb with hb|hb
  · left
    refine⟨(enc xs).length,?_⟩;rw[tokensL_go hne (t:=⟨1,[],giveP ps,0⟩) (r:= []) (by rw[hsk,ht,hb,Nat.sub_self]),tokensL_end (by rfl)];rfl
  · right
    exact⟨_,tokensL_bad hne (c:=3) (by rw[hsk,ht,hb])⟩
end Go.Proofs.YtcpmjkefbjbhpaaGreatDoor.ShowMath
