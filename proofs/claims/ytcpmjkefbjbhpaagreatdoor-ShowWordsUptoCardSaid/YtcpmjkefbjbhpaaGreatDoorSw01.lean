/-
  Proved: contracts of functions, plain facts. Conditions: as each says.
-/
import Derived.Test.YtcpmjkefbjbhpaaGreatDoorSw00
import Derived.Below
namespace Go.Proofs.YtcpmjkefbjbhpaaGreatDoor.ShowMath
open Go Go.Lib GlyphMath LexMath TreeMath
def escT:List UInt8→List UInt8
  | []=> []
  |c::r=>if c=34∨c=36∨c=92 then 92::c::escT r else c::escT r
def quotedT (s:List UInt8):List UInt8:=34::(escT s++ [34])
def bareS (row:List Pt→List UInt8) (p:Pt):List UInt8:=
  if p.kind=2 then(if p.op= [35]then [36,123,35]++p.text++ [125]else [36,123]++p.text++p.op++row p.word++ [125])
  else [36,40,40]++p.text++ [41,41]
def partS (row:List Pt→List UInt8) (p:Pt):List UInt8:=
  if p.kind=1 then(if p.q then quotedT p.text else p.text)
  else if p.q then [34]++bareS row p++ [34]else bareS row p
def rowS:Nat→List Pt→List UInt8
  |0,_=> []
  |k+1,ps=>(ps.map (partS (rowS k))).flatten
def depS:Nat→List Pt→Bool
  |0,ps=>ps.isEmpty
  |k+1,ps=>ps.all fun p=>depS k p.word
def wordS (ps:List Pt):List UInt8:=rowS 22 ps
def wordsS (l:List (List Pt)):List UInt8:=(l.map fun x=> [32]++wordS x).flatten
def redirsS (l:List (List UInt8×List Pt)):List UInt8:=(l.map fun x=> [32]++x.1++ [32]++wordS x.2).flatten
def assignsS (l:List (List UInt8×List Pt)):List UInt8:=(l.map fun x=> [32]++x.1++ [61]++wordS x.2).flatten
def cmdS (n:Nd):List UInt8:=(assignsS n.assigns++(wordsS n.words++redirsS n.redirs)).tail
def joinS (sep:List UInt8):List (List UInt8)→List UInt8
  | []=> []
  |a::r=>a++(r.map (sep++ ·)).flatten
def patS (l:List (List Pt)):List UInt8:=joinS [32,124,32] (l.map wordS)
def arms:List (List (List Pt))→List (List UInt8)→List UInt8
  |p::ps,k::ks=>([40]++patS p++([41,32]++k++ [59,59,32]))++arms ps ks
  |_,_=> []
def casesS (n:Nd) (ks:List (List UInt8)):List UInt8:= [99,97,115,101]++wordsS n.words++ [32,105,110,32]++arms n.pats ks++ [101,115,97,99]
def ifS:List (List UInt8)→List UInt8
  | [a,b]=> [105,102,32]++a++ [59,32,116,104,101,110,32]++b++ [59,32]++ [102,105]
  | [a,b,c]=> [105,102,32]++a++ [59,32,116,104,101,110,32]++b++ [59,32]++ [101,108,115,101,32]++c++ [59,32]++ [102,105]
  |_=> []
def at0 (ks:List (List UInt8)) (i:Nat):List UInt8:=ks.getD i []
def loopS (op:List UInt8) (ks:List (List UInt8)):List UInt8:=op++ [32]++at0 ks 0++ [59,32,100,111,32]++at0 ks 1++ [59,32,100,111,110,101]
def forS (n:Nd) (ks:List (List UInt8)):List UInt8:= [102,111,114,32]++n.name++ [32,105,110]++wordsS n.words++(if n.words.isEmpty then [32]else [])++ [59,32,100,111,32]++at0 ks 0++ [59,32,100,111,110,101]
def compS (n:Nd) (ks:List (List UInt8)):List UInt8:=
  if n.op= [105,102]then ifS ks
  else if n.op= [119,104,105,108,101]∨n.op= [117,110,116,105,108]then loopS n.op ks
  else if n.op= [102,111,114]then forS n ks
  else if n.op= [99,97,115,101]then casesS n ks
  else if n.op= [103,114,111,117,112]then [123,32]++at0 ks 0++ [59,32,125]
  else [40,32]++at0 ks 0++ [32,41]
def nodeT (n:Nd) (ks:List (List UInt8)):List UInt8:=
  if n.op= [99,109,100]then cmdS n
  else if n.op= [115,101,113]then joinS [59,32] ks
  else if n.op= [97,110,100]then joinS [32,38,38,32] ks
  else if n.op= [111,114]then joinS [32,124,124,32] ks
  else if n.op= [112,105,112,101]then joinS [32,124,32] ks
  else if n.op= [110,111,116]then [33,32]++at0 ks 0
  else if n.op= [102,117,110]then n.name++ [40,41,32]++at0 ks 0
  else compS n ks++redirsS n.redirs
def nodeS (ns:List Nd):Nat→Nat→List UInt8
  |0,_=> []
  |f+1,i=>match ns[i]? with
    |none=> []
    |some n=>nodeT n (n.kids.map fun k=>nodeS ns f k.toNat)
def textS (ns:List Nd):List UInt8:=nodeS ns ns.length 0
theorem T_append (a b:List UInt8):T (a++b)=T a++T b:=by
  apply ByteArray.ext;simp[T]
end Go.Proofs.YtcpmjkefbjbhpaaGreatDoor.ShowMath
namespace Go.Proofs.YtcpmjkefbjbhpaaGreatDoor.TreeMath
open Go Go.Lib GlyphMath LexMath
set_option maxHeartbeats 1000000 in
theorem decodeN_high (n b0 b1 b2 b3:Nat) (h:128≤b0) (h0:b0<256):128≤(decodeN n b0 b1 b2 b3).1∧(decodeN n b0 b1 b2 b3).1≤1114111∧((decodeN n b0 b1 b2 b3).1<55296∨57343<(decodeN n b0 b1 b2 b3).1)∧
    (1<(decodeN n b0 b1 b2 b3).2→128≤b1)∧(2<(decodeN n b0 b1 b2 b3).2→128≤b2)∧(3<(decodeN n b0 b1 b2 b3).2→128≤b3)∧(decodeN n b0 b1 b2 b3).2≤4:=by
  unfold decodeN;rw[if_neg (by omega)]
  repeat' split
  all_goals refine⟨?_,?_,?_,?_,?_,?_,?_⟩<;>simp only<;>omega
theorem get_drop (s:ByteArray) (i:Nat) (h:i<s.size):s.data.toList.drop i=s.get! i::s.data.toList.drop (i+1):=by
  have hl:i<s.data.toList.length:=(by rw[←size_eq];exact h);rw[List.drop_eq_getElem_cons hl]
  congr 1
  have h2:s.data.toList[i]? =some (s.data.toList[i]):=List.getElem?_eq_getElem hl;rw[←getD_get!',List.getD_eq_getElem?_getD,h2];rfl
theorem dec_low (s:ByteArray) (i:Nat) (h:(s.get! i).toNat<128):Utf8.decode s i=((s.get! i).toNat,1):=by
  rw[decode_at];unfold decodeN;rw[if_pos h]
theorem any_cons (b:UInt8) (l cs:List UInt8):anyIn (b::l) cs=(cs.contains b||anyIn l cs):=rfl
theorem not_in {b:UInt8} {cs:List UInt8} (hb:128≤b.toNat) (hc:∀c∈cs,c.toNat<128):cs.contains b=false:=by
  cases h:cs.contains b with
  |false=>rfl
  |true=>
    have:=hc b (by simpa using h);omega
theorem any_skip (s:ByteArray) (cs:List UInt8) (hc:∀c∈cs,c.toNat<128):∀d i,i+d≤s.size→(∀j,j<d→128≤(s.get! (i+j)).toNat)→anyIn (s.data.toList.drop i) cs=anyIn (s.data.toList.drop (i+d)) cs
  |0,_,_,_=>rfl
  |d+1,i,hs,hj=>by
    rw[get_drop s i (by omega),any_cons,not_in (show 128≤(s.get! i).toNat from hj 0 (by omega)) hc,Bool.false_or,any_skip s cs hc d (i+1) (by omega) (fun j h=>by
      have:=hj (j+1) (by omega)
      rwa [show i+(j+1)=i+1+j by omega]at this)]
    congr 2;omega
theorem dec_high (s:ByteArray) (i:Nat) (hi:i<s.size) (h:128≤(s.get! i).toNat):∃r d,Utf8.decode s i=(r,d)∧128≤r∧GoodL r∧1≤d∧i+d≤s.size∧∀cs:List UInt8,(∀c∈cs,c.toNat<128)→anyIn (s.data.toList.drop i) cs=anyIn (s.data.toList.drop (i+d)) cs:=by
  obtain⟨r,d,hd⟩:∃r d,Utf8.decode s i=(r,d):=⟨_,_,rfl⟩;have hw:=width_pos s i hi;have hl:=width_le s i hi;have hh:=decodeN_high (s.size-i) (s.get! i).toNat (s.get! (i+1)).toNat (s.get! (i+2)).toNat (s.get! (i+3)).toNat h (s.get! i).toNat_lt;rw[←decode_at,hd]at hh;rw[hd]at hw hl;simp only at hh hw hl;obtain⟨h1,h2,h3,h4,h5,h6,h7⟩:=hh;refine⟨r,d,hd,h1,⟨by omega,h2,h3⟩,hw,hl,fun cs hc=>any_skip s cs hc d i hl fun j hj=> ?_⟩
  match j,hj with
  |0,_=>exact h
  |1,hj=>exact h4 hj
  |2,hj=>exact h5 hj
  |3,hj=>exact h6 hj
  |j+4,hj=>omega
theorem drop_all (s:ByteArray) (i:Nat) (h:¬i<s.size):s.data.toList.drop i= []:=by
  rw[List.drop_eq_nil_iff,←size_eq];omega
end Go.Proofs.YtcpmjkefbjbhpaaGreatDoor.TreeMath
namespace Go.Proofs.YtcpmjkefbjbhpaaGreatDoor
open Go Go.RowKit GlyphMath LexMath
theorem extract_mem {s:ByteArray} {i j:Nat} {b:UInt8} (h:b∈(s.extract i j).data.toList):b∈s.data.toList:=by
  rw[ByteArray.data_extract,Array.toList_extract]at h;exact List.mem_of_mem_drop (List.mem_of_mem_take (by simpa [List.extract]using h))
theorem below_drew (B:Nat) (w:World) (n:Nat):Below B w (w.drewN n):=⟨rfl,rfl,rfl,Nat.le_refl _,fun _ _=>rfl⟩
set_option maxHeartbeats 600000 in
set_option maxRecDepth 1000000 in
theorem index_high (s:ByteArray) (r:Nat) (w:World) (h0:128≤r) (hg:GoodL r) (hr:r≠65533) (hs:∀b∈s.data.toList,b.toNat<128) (hz:s.size≤100):
    Calls Tryz.prog 190 #[.string s,.int .i32 (r:Int)] w fun e w'=>e= .returned (.int .i64 (-1))∧Below w.heap.size w w':=by
  have hV:=yH (validRune_good hg);obtain⟨E,hE,hf⟩:∃E,Utf8.encode (r:Int)=E∧(2≤E.size∧E.size≤4∧∀h:E.size-1<E.size,128≤(E[E.size-1]'h).toNat):=⟨_,rfl,encode_facts (r:Int) (valid_good hg) (by omega)⟩;have HF:=yH hf;have HR:=yH hs;have hc1:(128:Int)≤(r:Int):=(by omega)
  have hc2:((r:Int)==65533)=false:=by
    have:¬(r:Int)=65533:=by omega
    simpa using this
  have HE:=yH hE;have HZ:=yH hz;clear hf h0 hr hs hg hz hE;go_enter Tryz.func190,Tryz.ntmps190;go_wp2_with fail;refine(Tryz.utf8_ValidRune _ _).mono ?_;rintro e w1 ⟨rfl,rfl⟩;rw[hV.out];go_wp2_with fail
  go_step3
  go_wp2_with fail;obtain⟨n,hn⟩:∃n,E.size=n+1:=⟨E.size-1,by have:=HF.out.1;omega⟩
  have hw:wrap64 (((Utf8.encode (r:Int)).size:Int)-1)=(n:Int):=by
    rw[HE.out,hn];have e:(((n+1:Nat):Int)-1)=(n:Int):=(by omega);rw[e];have:=HF.out.2.1;exact IntWalk.wrap64_in (n:Int) ⟨by omega,by omega⟩
  rw[hw,HE.out];have hne:(n:Int)<E.size:=(by omega);have hn3:(n:Int)≤3:=(by have:=HF.out.2.1;omega);have hn0:(1:Int)≤(n:Int):=(by have:=HF.out.1;omega);have HN:=yH hn;clear hw hn
  by_cases hsz:(n:Int)<s.size
  · have hss:n<s.size:=by omega
    have hee:n<E.size:=by omega
    have hb1:(s[n]'hss).toNat<128:=HR.out _ (by
      rw[ByteArray.getElem_eq_getElem_data]
      exact Array.getElem_mem_toList ..)
    have hb2:128≤(E[n]'hee).toNat:=by
      have h:=HF.out.2.2 (by have:=HN.out;omega);have e:E.size-1=n:=(by have:=HN.out;omega);simp only[e]at h;exact h
    have hdif:((((s[n]'hss).toNat:Nat):Int) !=(((E[n]'hee).toNat:Nat):Int))=true:=by simp;omega
    have HI:=yH (fun (k:Nat) (W:World)=>(show Calls Tryz.prog 218 #[.string (s.extract k s.size),.int .u8 (((E[n]'hee).toNat:Nat):Int)] W fun e w'=>e= .returned (.int .i64 (-1))∧w'=W by
      refine(Tryz.strings_IndexByte _ _ _).mono ?_;rintro e w' ⟨rfl,rfl⟩;rw[indexByte_not]
      · exact⟨rfl,rfl⟩
      · intro b hb e
        have h1:=HR.out b (extract_mem hb)
        have h2:b.toNat=(E[n]'hee).toNat:=by
          rw[e];have:=UInt8.toNat_lt (E[n]'hee);simp
        omega))
    obtain⟨m,hm⟩:∃m:Nat,m=n+1:=⟨_,rfl⟩
    have hwr:IntKind.i64.wrap ((n:Int)+1)=(m:Int):=by
      have e:(m:Int)=(n:Int)+1:=(by omega);rw[e];exact IntWalk.i64_in _ ⟨by omega,by omega⟩
    have hsl:(m:Int)≤(s.size:Int):=(by omega);have hs0:(0:Int)≤(m:Int):=(by omega);clear hm;clear hb1 hb2
    go_loopw [9] (fun i w'=>i= .int .i64 (n:Int)∧w'=w1) (fun _ _=>0)
    case atStart=>exact⟨rfl,rfl⟩
    case round=>
      obtain⟨rfl,rfl⟩:=hrel;go_wp2_with fail
      go_step3
      go_wp2_with fail
      go_quiet (fail)
      go_wp2_with fail
      go_quiet ((go_at_call 218;refine(HI.out _ _).mono ?_;rintro e w2 ⟨rfl,rfl⟩;exact⟨rfl,_,rfl⟩))
      go_wp2_with fail;rw[Exit.noGoto_ret];go_wp2_with fail;rw[Exit.noGoto_ret];go_wp2_with fail;go_ret;exact⟨rfl,rfl,rfl,rfl,Nat.le_refl _,fun _ _=>rfl⟩
  · go_loopw [9] (fun i w'=>i= .int .i64 (n:Int)∧w'=w1) (fun _ _=>0)
    case atStart=>exact⟨rfl,rfl⟩
    case round=>
      obtain⟨rfl,rfl⟩:=hrel;go_wp2_with fail;go_ret;exact⟨rfl,Below.refl _ _⟩
end Go.Proofs.YtcpmjkefbjbhpaaGreatDoor
namespace Go.Proofs.YtcpmjkefbjbhpaaGreatDoor
open Go Go.RowKit GlyphMath LexMath TreeMath
def SpotAt (w:World) (p:Option Addr) (k size:Nat) (cs:List Value):Prop:=∃b o,p=some ⟨b,o,none⟩∧∀i u,cs[i]? =some u→w.cell? ⟨b,o+k*size+i,none⟩=some u
theorem SpotAt.below {w w':World} {p:Option Addr} {k size:Nat} {cs:List Value} (h:SpotAt w p k size cs) (hb:Below w.heap.size w w'):SpotAt w' p k size cs:=by
  obtain⟨b,o,hp,hc⟩:=h;refine⟨b,o,hp,fun i u hu=> ?_⟩;have:=hc i u hu;rw[hb.cell (p:=⟨b,_,none⟩) (World.block_lt_of_cell? w _ this)];exact this
inductive PsAt (w:World):Value→List Pt→Prop
  |mk (p:Option Addr) (c:Nat) (ps:List Pt) (us:List Value):us.length=ps.length→ps.length≤maxLen→
      (∀k q u,ps[k]? =some q→us[k]? =some u→SpotAt w p k 5 (pcells q u))→(∀(k:Nat) (q:Pt) (u:Value),ps[k]? =some q→us[k]? =some u→PsAt w u q.word)→PsAt w (.slice p ps.length c) ps
theorem PsAt.stays {w w':World} {v:Value} {ps:List Pt} (h:PsAt w v ps) (hb:Below w.heap.size w w'):PsAt w' v ps:=by
  induction h with
  |mk p c ps us h1 h2 h3 _ ih=>exact .mk p c ps us h1 h2 (fun k q u hq hu=>(h3 k q u hq hu).below hb) ih
theorem PsAt.nil (w:World) (c:Nat):PsAt w (.slice none 0 c) []:=
  .mk none c [] [] rfl (by simp) (fun _ _ _ h=>by simp at h) (fun _ _ _ h=>by simp at h)
theorem PsAt.is {w:World} {v:Value} {ps:List Pt} (h:PsAt w v ps):∃p c,v= .slice p ps.length c∧ps.length≤maxLen∧
    ∀k q,ps[k]? =some q→∃u,SpotAt w p k 5 (pcells q u)∧PsAt w u q.word:=by
  cases h with
  |mk p c ps us h1 h2 h3 h4=>
    refine⟨p,c,rfl,h2,fun k q hq=> ?_⟩;have hk:k<us.length:=(by rw[h1];exact(List.getElem?_eq_some_iff.1 hq).1);exact⟨us[k],h3 k q _ hq (List.getElem?_eq_getElem hk),h4 k q _ hq (List.getElem?_eq_getElem hk)⟩
def wordV (u:Value):Value:= .agg #[u]
structure SlAt (w:World) (size:Nat) (α:Type) (P:α→List Value→Prop) (v:Value) (l:List α):Prop where
  is:∃p c,v= .slice p l.length c∧∀k x,l[k]? =some x→∃cs,SpotAt w p k size cs∧P x cs
  few:l.length≤maxLen
theorem SlAt.below {w w':World} {size:Nat} {α:Type} {P Q:α→List Value→Prop} {v:Value} {l:List α} (h:SlAt w size α P v l) (hb:Below w.heap.size w w') (hP:∀x cs,P x cs→Q x cs):SlAt w' size α Q v l:=by
  obtain⟨⟨p,c,hv,hx⟩,hf⟩:=h;refine⟨⟨p,c,hv,fun k x hk=> ?_⟩,hf⟩;obtain⟨cs,h1,h2⟩:=hx k x hk;exact⟨cs,h1.below hb,hP x cs h2⟩
theorem SlAt.nil (w:World) (size:Nat) {α:Type} (P:α→List Value→Prop) (c:Nat):SlAt w size α P (.slice none 0 c) []:=⟨⟨none,c,rfl,fun _ _ h=>by simp at h⟩,by simp⟩
def WsAt (w:World) (v:Value) (l:List (List Pt)):Prop:=SlAt w 1 (List Pt) (fun x cs=> ∃u,cs= [u]∧PsAt w u x) v l
def PatsAt (w:World) (v:Value) (l:List (List (List Pt))):Prop:=SlAt w 1 (List (List Pt)) (fun x cs=> ∃u,cs= [u]∧WsAt w u x) v l
def AsAt (w:World) (v:Value) (l:List (List UInt8×List Pt)):Prop:=SlAt w 2 (List UInt8×List Pt) (fun x cs=> ∃u,cs= [txt x.1,u]∧PsAt w u x.2) v l
def KidsAt (w:World) (v:Value) (l:List Int):Prop:=SlAt w 1 Int (fun x cs=>cs= [.int .i64 x]) v l
theorem WsAt.below {w w':World} {v:Value} {l:List (List Pt)} (h:WsAt w v l) (hb:Below w.heap.size w w'):WsAt w' v l:=SlAt.below h hb fun _ _ ⟨u,e,hu⟩=>⟨u,e,hu.stays hb⟩
theorem PatsAt.below {w w':World} {v:Value} {l:List (List (List Pt))} (h:PatsAt w v l) (hb:Below w.heap.size w w'):PatsAt w' v l:=SlAt.below h hb fun _ _ ⟨u,e,hu⟩=>⟨u,e,hu.below hb⟩
theorem AsAt.below {w w':World} {v:Value} {l:List (List UInt8×List Pt)} (h:AsAt w v l) (hb:Below w.heap.size w w'):AsAt w' v l:=SlAt.below h hb fun _ _ ⟨u,e,hu⟩=>⟨u,e,hu.stays hb⟩
theorem KidsAt.below {w w':World} {v:Value} {l:List Int} (h:KidsAt w v l) (hb:Below w.heap.size w w'):KidsAt w' v l:=SlAt.below h hb fun _ _ e=>e
structure NdAt (w:World) (n:Nd) (cs:List Value):Prop where
  is:∃kv wv pv av rv,cs= [txt n.op,txt n.name,kv,wv,pv,av,rv]∧KidsAt w kv n.kids∧WsAt w wv n.words∧PatsAt w pv n.pats∧AsAt w av n.assigns∧AsAt w rv n.redirs
theorem NdAt.below {w w':World} {n:Nd} {cs:List Value} (h:NdAt w n cs) (hb:Below w.heap.size w w'):NdAt w' n cs:=by
  obtain⟨kv,wv,pv,av,rv,e,h1,h2,h3,h4,h5⟩:=h.is;exact⟨kv,wv,pv,av,rv,e,h1.below hb,h2.below hb,h3.below hb,h4.below hb,h5.below hb⟩
def NsAt (w:World) (v:Value) (l:List Nd):Prop:=SlAt w 7 Nd (fun n cs=>NdAt w n cs) v l
theorem NsAt.below {w w':World} {v:Value} {l:List Nd} (h:NsAt w v l) (hb:Below w.heap.size w w'):NsAt w' v l:=SlAt.below h hb fun _ _ e=>e.below hb
inductive Small:List Pt→Prop
  |mk (ps:List Pt):(∀q:Pt,q∈ps→q.text.length≤1048576)→(∀q:Pt,q∈ps→Small q.word)→Small ps
theorem Small.get {ps:List Pt} (h:Small ps) {q:Pt} (hq:q∈ps):q.text.length≤1048576∧Small q.word:=by
  cases h with
  |mk _ h k=>exact⟨h q hq,k q hq⟩
theorem Small.nil:Small []:= .mk [] (fun _ h=>by cases h) fun _ h=>by cases h
end Go.Proofs.YtcpmjkefbjbhpaaGreatDoor
namespace Go.Proofs.YtcpmjkefbjbhpaaGreatDoor.ParseMath
open Go Go.Lib GlyphMath LexMath TreeMath
structure PS where
  ts:List Tk
  at_:Nat
  err:Nat
inductive Tr
  |mk (n:Nd) (kids:List Tr)
def Tr.node:Tr→Nd
  | .mk n _=>n
def Tr.kids:Tr→List Tr
  | .mk _ l=>l
def nd0:Nd:=⟨[],[],[],[],[],[],[]⟩
def tr0:Tr:= .mk nd0 []
def trOf (op:List UInt8) (l:List Tr):Tr:= .mk { nd0 with op:=op } l
def several (op:List UInt8):List Tr→Tr
  | [t]=>t
  |l=>trOf op l
def tkEnd:Tk:=⟨3,[],[],0⟩
def textK (t:Tk):List UInt8:=if t.kind=1 then(plainT t.word).getD []else t.text
def PS.hd (S:PS):Tk:=S.ts.headD tkEnd
def PS.tx (S:PS):List UInt8:=textK S.hd
def PS.is (S:PS) (s:List UInt8):Bool:=S.tx==s
def PS.take (S:PS):PS:=if S.hd.kind=3 then S else { S with ts:=S.ts.tail }
def PS.fail (S:PS) (e:Nat):PS:=⟨S.ts.drop (S.ts.length-1),if S.err=0 then S.hd.at_ else S.at_,if S.err=0 then e else S.err⟩
def PS.takes (S:PS) (s:List UInt8):Bool×PS:=if S.is s then(true,S.take)else (false,S)
def PS.need (S:PS) (s:List UInt8):PS:=if S.is s then S.take else S.fail 2
def PS.isWord (S:PS):Bool:=S.hd.kind==1
def PS.want (S:PS) (b:Bool):PS:=if b then S else S.fail 2
def PS.word (S:PS):List Pt×PS:=((S.want S.isWord).hd.word,(S.want S.isWord).take)
def PS.isName (S:PS):Bool:=nameT S.tx
def PS.name (S:PS):List UInt8×PS:=((S.want S.isName).tx,(S.want S.isName).take)
def linesL:Nat→PS→PS
  |0,S=>S
  |f+1,S=>if S.is [10]then linesL f S.take else S
def PS.lines (S:PS):PS:=linesL S.ts.length S
def PS.sep (S:PS):Bool×PS:=if S.is [59]||S.is [10]then (true,S.take.lines)else (false,S)
def endsL:List (List UInt8):= [[41],[59,59],[125],[116,104,101,110],[101,108,105,102],[101,108,115,101],[102,105],[100,111],[100,111,110,101]]
def PS.ends (S:PS):Bool:=endsL.contains S.tx||S.hd.kind==3
abbrev Do:=PS→Tr×PS
def pipeL (cmd:Do):Nat→List Tr→PS→List Tr×PS
  |0,l,S=>(l,S)
  |f+1,l,S=>if S.is [124]then pipeL cmd f (l++ [(cmd S.take.lines).1]) (cmd S.take.lines).2 else(l,S)
def pipeM (cmd:Do) (S:PS):Tr×PS:=
  let b:=S.takes [33]
  let r:=cmd b.2
  let q:=pipeL cmd r.2.ts.length [r.1] r.2
  (if b.1 then trOf [110,111,116] [several [112,105,112,101] q.1]else several [112,105,112,101] q.1,q.2)
def andorL (cmd:Do):Nat→Tr→PS→Tr×PS
  |0,n,S=>(n,S)
  |f+1,n,S=>
    if S.is [38,38]then andorL cmd f (trOf [97,110,100] [n,(pipeM cmd S.take.lines).1]) (pipeM cmd S.take.lines).2
    else if S.is [124,124]then andorL cmd f (trOf [111,114] [n,(pipeM cmd S.take.lines).1]) (pipeM cmd S.take.lines).2
    else(n,S)
def andorM (cmd:Do) (S:PS):Tr×PS:=andorL cmd (pipeM cmd S).2.ts.length (pipeM cmd S).1 (pipeM cmd S).2
def listL (cmd:Do):Nat→List Tr→PS→List Tr×PS
  |0,l,S=>(l,S)
  |f+1,l,S=>if S.sep.1&& !S.sep.2.ends then listL cmd f (l++ [(andorM cmd S.sep.2).1]) (andorM cmd S.sep.2).2 else(l,S.sep.2)
def listM (cmd:Do) (S:PS):Tr×PS:=
  let r:=andorM cmd S.lines
  let q:=listL cmd r.2.ts.length [r.1] r.2
  (several [115,101,113] q.1,q.2)
def PS.isRedir (S:PS):Bool:=S.is [60]||(S.is [62]||S.is [62,62])
def redirM (S:PS):(List UInt8×List Pt)×PS:=((S.hd.text,S.take.word.1),S.take.word.2)
def restT:List UInt8→List UInt8
  | []=> []
  |c::r=>if c=61 then r else restT r
def assignO:List Pt→Option (List UInt8×List Pt)
  | []=>none
  |p::r=>if bareT p then match aheadT p.text with
      |none=>none
      |some n=>if nameT n then
          some (n,if restT p.text= []∧r= []then [⟨1,[],[],[],true⟩]else if restT p.text= []then r else⟨1,restT p.text,[],[],false⟩::r)
        else none
    else none
def pushWord (n:Nd) (S:PS):Nd×PS:=({ n with words:=n.words++ [S.word.1] },S.word.2)
def partM (n:Nd) (S:PS):Nd×PS:=
  if n.words.isEmpty then match assignO S.hd.word with
    |some a=>({ n with assigns:=n.assigns++ [a] },S.take)
    |none=>if n.assigns.isEmpty&&reservedT S.tx then(n,S.fail 2)else pushWord n S
  else pushWord n S
def simpleL:Nat→Nd→PS→Nd×PS
  |0,n,S=>(n,S)
  |f+1,n,S=>
    if S.isRedir then simpleL f { n with redirs:=n.redirs++ [(redirM S).1] } (redirM S).2
    else if S.isWord then simpleL f (partM n S).1 (partM n S).2
    else(n,S)
def simpleM (S:PS):Tr×PS:=
  let S1:=S.want (S.isWord||S.isRedir)
  let r:=simpleL S1.ts.length { nd0 with op:= [99,109,100] } S1
  (.mk r.1 [],r.2)
def enclosedM (cmd:Do) (op closing:List UInt8) (S:PS):Tr×PS:=(trOf op [(listM cmd S.take).1],(listM cmd S.take).2.need closing)
def branchM (cmd br:Do) (S:PS):Tr×PS:=
  let a:=listM cmd S.take
  let b:=listM cmd (a.2.need [116,104,101,110])
  if b.2.is [101,108,105,102]then (trOf [105,102] [a.1,b.1,(br b.2).1],(br b.2).2)
  else if b.2.is [101,108,115,101]then (trOf [105,102] [a.1,b.1,(listM cmd b.2.take).1],(listM cmd b.2.take).2.need [102,105])
  else(trOf [105,102] [a.1,b.1],b.2.need [102,105])
def bodyM (cmd:Do) (S:PS):Tr×PS:=((listM cmd (S.need [100,111])).1,(listM cmd (S.need [100,111])).2.need [100,111,110,101])
def loopM (cmd:Do) (op:List UInt8) (S:PS):Tr×PS:=(trOf op [(listM cmd S.take).1,(bodyM cmd (listM cmd S.take).2).1],(bodyM cmd (listM cmd S.take).2).2)
def wordsL:Nat→List (List Pt)→PS→List (List Pt)×PS
  |0,l,S=>(l,S)
  |f+1,l,S=>if S.isWord then wordsL f (l++ [S.word.1]) S.word.2 else(l,S)
def eachM (cmd:Do) (S:PS):Tr×PS:=
  let nm:=S.take.name
  let S1:=nm.2.need [105,110]
  let ws:=wordsL S1.ts.length [] S1
  let b:=bodyM cmd ws.2.sep.2
  (.mk { nd0 with op:= [102,111,114],name:=nm.1,words:=ws.1 } [b.1],b.2)
def patsL:Nat→List (List Pt)→PS→List (List Pt)×PS
  |0,l,S=>(l,S)
  |f+1,l,S=>if S.is [124]then patsL f (l++ [S.take.word.1]) S.take.word.2 else(l,S)
def patsM (S:PS):List (List Pt)×PS:=
  let r:=(S.takes [40]).2.word
  let q:=patsL r.2.ts.length [r.1] r.2
  (q.1,q.2.need [41])
structure Cs where
  pats:List (List (List Pt))
  kids:List Tr
  st:PS
def choiceL (cmd:Do):Nat→List (List (List Pt))→List Tr→PS→Cs
  |0,ps,l,S=>⟨ps,l,S⟩
  |f+1,ps,l,S=>
    if S.is [101,115,97,99]||S.hd.kind==3 then⟨ps,l,S⟩
    else choiceL cmd f (ps++ [(patsM S).1]) (l++ [(listM cmd (patsM S).2).1]) ((listM cmd (patsM S).2).2.need [59,59]).lines
def choiceM (cmd:Do) (S:PS):Tr×PS:=
  let w:=S.take.word
  let S1:=(w.2.need [105,110]).lines
  let q:=choiceL cmd S1.ts.length [] [] S1
  (.mk { nd0 with op:= [99,97,115,101],words:= [w.1],pats:=q.pats } q.kids,q.st.need [101,115,97,99])
def compoundM (cmd br:Do) (S:PS):Option (Tr×PS):=
  if S.is [123]then some (enclosedM cmd [103,114,111,117,112] [125] S)
  else if S.is [40]then some (enclosedM cmd [115,117,98] [41] S)
  else if S.is [105,102]then some (branchM cmd br S)
  else if S.is [119,104,105,108,101]then some (loopM cmd [119,104,105,108,101] S)
  else if S.is [117,110,116,105,108]then some (loopM cmd [117,110,116,105,108] S)
  else if S.is [102,111,114]then some (eachM cmd S)
  else if S.is [99,97,115,101]then some (choiceM cmd S)
  else none
def PS.isFun (S:PS):Bool:=S.isName&&(!reservedT S.tx&&textK (S.ts.tail.headD tkEnd)== [40])
def funM (held:Do) (S:PS):Tr×PS:=
  let nm:=S.name
  let h:=held ((nm.2.need [40]).need [41]).lines
  (.mk { nd0 with op:= [102,117,110],name:=nm.1 } [h.1],h.2)
def redirsL:Nat→Nd→PS→Nd×PS
  |0,n,S=>(n,S)
  |f+1,n,S=>if S.isRedir then redirsL f { n with redirs:=n.redirs++ [(redirM S).1] } (redirM S).2 else(n,S)
def redirsM (r:Tr×PS):Tr×PS:=(.mk (redirsL r.2.ts.length r.1.node r.2).1 r.1.kids,(redirsL r.2.ts.length r.1.node r.2).2)
def commandM (cmd br held:Do) (S:PS):Tr×PS:=
  if S.isFun then funM held S
  else match compoundM cmd br S with
    |some r=>redirsM r
    |none=>simpleM S
def heldM (cmd:Do) (S:PS):Tr×PS:=
  if S.is [123]then enclosedM cmd [103,114,111,117,112] [125] S
  else if S.is [40]then enclosedM cmd [115,117,98] [41] S
  else(tr0,S.fail 2)
structure Lv where
  cmd:Do
  br:Do
  held:Do
def lv:Nat→Lv
  |0=>⟨fun S=>simpleM (S.fail 3),fun S=>(tr0,S),fun S=>(tr0,S.fail 3)⟩
  |k+1=>⟨commandM (lv k).cmd (lv k).br (lv k).held,branchM (lv k).cmd (lv k).br,heldM (lv k).cmd⟩
mutual
def laidM:Tr→List Nd→List Nd
  | .mk n kids,l=>laidL l.length kids (l++ [n])
def laidL (at_:Nat):List Tr→List Nd→List Nd
  | [],l=>l
  |t::r,l=>laidL at_ r (laidM t (l.modify at_ fun n=> { n with kids:=n.kids++ [(l.length:Int)] }))
end
def scriptM (S:PS):Tr×PS:=((listM (lv 20).cmd S).1,(listM (lv 20).cmd S).2.want ((listM (lv 20).cmd S).2.hd.kind==3))
def parseM (ts:List Tk):Except (Nat×Nat) (List Nd):=
  let r:=scriptM ⟨ts,0,0⟩
  if r.2.err≠0 then .error (r.2.at_,r.2.err)
  else if 200<(laidM r.1 []).length then .error (0,3)
  else .ok (laidM r.1 [])
end Go.Proofs.YtcpmjkefbjbhpaaGreatDoor.ParseMath
namespace Go.Proofs.YtcpmjkefbjbhpaaGreatDoor
open Go Go.RowKit GlyphMath
def strLen:Value→Nat| .string b=>b.size|_=>0
def RelG (s:ByteArray) (w:World) (t v:Value) (wr:World):Prop:=
  ∃(u:ByteArray) (done:List Nat),t= .string u∧u.size≤s.size∧Below w.heap.size w wr∧RowL wr w.heap.size v done∧done++letters u=letters s
theorem new_cells (w:World) (r:Nat):∀(j:Nat) (u:Value),[Value.int .i32 (r:Int)][j]? =some u→(w.alloc (.cells #[.int .i32 (r:Int)] 21)).cell? ((⟨w.heap.size,0,none⟩:Addr).add j)=some u:=by
  intro j u hj
  match j,hj with
  |0,hj=>exact(World.cell?_alloc_mark _ #[.int .i32 (r:Int)] 21 (0,0) 0).trans hj
theorem relG_step {s u':ByteArray} {w:World} {r:Nat} {v v':Value} {w1 w':World} {done:List Nat} {c:Value} (hsz:u'.size≤s.size) (hb:Below w.heap.size w w1)
    (hrow:RowL w1 w.heap.size v done) (hl:done++r::letters u'=letters s)
    (hown:w'.ownsRow w.heap.size 21 1 v' (done.length+1) (rc done++ [.int .i32 (r:Int)])) (hg:(w1.alloc (.cells #[c] 21)).grownBy w' v.ownBlock):RelG s w (.string u') v' w':=by
  refine⟨u',done++ [r],rfl,hsz,?_,?_,by rw[List.append_assoc];exact hl⟩
  · have b2:=hb.alloc hb.size (.cells #[c] 21)
    refine b2.grown hg b2.size ?_;intro k e;exact(World.ownsRow.lt hrow k e).1
  · unfold RowL
    rw[rc_add,List.length_append,List.length_singleton];exact hown
set_option maxHeartbeats 1000000 in
set_option maxRecDepth 100000 in
theorem rrunes_any (s:ByteArray) (w:World) (hs:s.size≤1099511627776) (hT:Tabs w):
    Calls Tryz.prog 94 #[.string s] w fun e w'=> ∃v,e= .returned v∧RowL w' w.heap.size v (letters s)∧Below w.heap.size w w':=by
  have HT:=yH hT;have HS:=yH hs;have HL:=yH (letters_length s);clear hT hs;obtain⟨i0,hi,hz0,hz1,hz2⟩:=info_parts info32;go_enter Tryz.func94,Tryz.ntmps94;go_wp2_with fail
  go_loopw [0,3] (fun t v wr=>RelG s w t v wr) (fun t _ _=>strLen t)
  case atStart=>exact⟨s,[],rfl,Nat.le_refl _,Below.refl _ _,RowL.nil _ _,rfl⟩
  case round=>
    obtain⟨u,done,rfl,hsz,hb,hrow,hdone⟩:=hrel;have HTr:=yH (HT.out.below hb)
    by_cases hp:0<u.size
    · obtain⟨r,d,hd⟩:∃r d,Utf8.decode u 0=(r,d):=⟨_,_,rfl⟩
      have hc:=dec_any u wr hp HTr.out;have hwd:=width_pos u 0 hp;have hwl:=width_le u 0 hp;have hst:=letters_tail u hp;rw[hd]at hwd hwl hst hc;simp only[Nat.zero_add]at hwd hwl hst hc;rw[hst]at hdone;have HC:=yH hc;have HW:=yH (And.intro hwd hwl)
      have hlen:done.length+1≤1099511627776:=by
        have h1:=congrArg List.length hdone;rw[List.length_append,List.length_cons]at h1;have:=HL.out;have:=HS.out;omega
      have C3:=yH (show done.length+1≤maxLen by unfold maxLen;omega);have C4:=yH (show(done.length+1)*4≤140737488355328 by omega);have HD:=yH hdone;have HR:=yH hrow;have HB:=yH hb;have HP:=yH (show(u.extract d u.size).size≤s.size∧(u.extract d u.size).size<u.size by rw[Lib.tail_size];omega);have hpi:(0:Int)<u.size:=(by omega);have hdi:(d:Int)≤u.size:=(by omega);clear hd hst hwd hwl hdone hlen hp hrow hb hc hsz
      go_wp2_with (first
        |(go_at_call 84;refine HC.out.mono ?_;rintro e w1 ⟨rfl,hb1⟩;have HB1:=yH (HB.out.trans (hb1.mono HB.out.size));have HR1:=yH (HR.out.below hb1);have CO:=yH (World.ownsRow.alloc HR1.out (.cells #[.int .i32 (r:Int)] 21));have C5:=yH (show w.heap.size≤(w1.alloc (.cells #[.int .i32 (r:Int)] 21)).heap.size by rw[World.size_alloc];have:=HB1.out.size;omega);clear hb1)
        |(at_builtin;refine wpList_append_own _ rfl _ _ 148 rfl w.heap.size 21 i0 (.int .i32 0) 1 4 Tryz.underlying148 hi hz0 hz1 hz2 rfl (by decide) _ _ _ rfl CO.out ⟨w1.heap.size,0,none⟩ 1 1 [.int .i32 (r:Int)] rfl rfl (new_cells w1 r) (by intro u hu;simp at hu;subst hu;rfl) C3.out C4.out C5.out ?_;intro v' w3 hown3 hg3 _))
      refine⟨relG_step HP.out.1 HB1.out HR1.out HD.out hown3 hg3,?_⟩;exact HP.out.2
    · have hpi:¬(0:Int)<u.size:=by omega
      have h0:letters u= []:=(by rw[←rest_zero];exact rest_end u 0 hp);rw[h0,List.append_nil]at hdone;have HR:=yH (show RowL wr w.heap.size _ (letters s) by rw[←hdone];exact hrow);have HB:=yH hb;clear hdone hrow hb hsz hp;go_wp2_with fail;go_ret;exact⟨_,rfl,HR.out,HB.out⟩
theorem name_of_all (l:List Nat) (h0:0<l.length) (ha:l.all (fun (x:Nat)=>moreR x)=true):nameL l=(decide (l.length≤12)&&firstR l[0]):=by
  cases l with
  |nil=>simp at h0
  |cons a r=>simp only[nameL,ha,List.getElem_cons_zero];simp[Bool.and_comm]
theorem name_of_not (l:List Nat) (k:Nat) (hk:k<l.length) (h:moreR l[k]=false):nameL l=false:=by
  have:l.all (fun (x:Nat)=>moreR x)=false:=by
    rw[List.all_eq_false];exact⟨l[k],List.getElem_mem hk,by simp[h]⟩
  cases l with
  |nil=>simp at hk
  |cons a r=>simp only[nameL,this];simp
theorem all_take {l:List Nat} {k:Nat} (hk:k<l.length) (ha:(l.take k).all (fun (x:Nat)=>moreR x)=true) (h:moreR l[k]=true):(l.take (k+1)).all (fun (x:Nat)=>moreR x)=true:=by
  rw[List.take_succ_eq_append_getElem hk,List.all_append,ha];simp[h]
set_option maxHeartbeats 1000000 in
theorem rname_any (s:ByteArray) (w:World) (hs:s.size≤1099511627776) (hT:Tabs w):
    Calls Tryz.prog 46 #[.string s] w fun e w'=>e= .returned (.bool (nameL (letters s)))∧Below w.heap.size w w':=by
  have hc:=rrunes_any s w hs hT;have hll:=letters_length s
  generalize letters s=l at hc hll ⊢
  have HL:=yH (show l.length≤1099511627776 by omega);clear hT hs hll;go_enter Tryz.func46,Tryz.ntmps46;go_wp2_with fail;refine hc.mono ?_;rintro e w1 ⟨v,rfl,hrow,hb⟩;have HB:=yH hb;clear hb hc
  rcases hrow.is with ⟨rfl,rfl⟩|⟨g,c,rfl⟩
  · clear hrow
    go_wp2_with fail
    go_loop [4] (fun i=>i= .int .i64 0) (fun _=>0)
    case atStart=>rfl
    case round=>
      subst hrel;go_wp2_with fail;go_ret;exact⟨rfl,HB.out⟩
  · have HC:=yH (fun (j:Nat) (hj:j<l.length)=>hrow.cell j hj)
    clear hrow;obtain⟨n,hn⟩:∃n,l.length=n:=⟨_,rfl⟩;have HN:=yH hn;rw[hn];clear hn;go_wp2_with fail
    go_loop [4] (fun i=> ∃k:Nat,k≤n∧i= .int .i64 (k:Int)∧(l.take k).all (fun (x:Nat)=>moreR x)=true) (fun i=>n-(intOf i).toNat)
    case atStart=>exact⟨0,Nat.zero_le _,rfl,rfl⟩
    case round=>
      obtain⟨k,hk,rfl,ha⟩:=hrel;have HA:=yH ha;clear ha
      by_cases hlt:k<n
      · have hkl:k<l.length:=by rw[HN.out];exact hlt
        have hcell:=HC.out k hkl;obtain⟨M,hM⟩:∃M,moreR l[k]=M:=⟨_,rfl⟩;have HM:=yH (And.intro hkl (fun h:k<l.length=>(show moreR (l[k]:Nat)=M from hM)));obtain⟨x,hx⟩:∃x:Int,((l[k]:Nat):Int)=x:=⟨_,rfl⟩;rw[hx]at hcell hM;have HX:=yH hM;have h1:(k:Int)<n:=(by omega);have h2:(k:Int)+1≤9223372036854775807:=(by have:=HL.out;omega);have HK:=yH hlt;clear hx hM hkl hlt hk
        cases M
        all_goals
          go_wp2_with (go_at_call 95;refine(rmore_any _ _).mono ?_;rintro e w2 ⟨rfl,rfl⟩;rw[HX.out])
        · go_ret
          exact⟨ret_bool (name_of_not l k HM.out.1 (HM.out.2 HM.out.1)).symm,HB.out⟩
        · go_round
          case rel=>exact⟨k+1,by have:=HK.out;omega,by go_num,all_take HM.out.1 HA.out (HM.out.2 HM.out.1)⟩
          case measure=>have:=HK.out;simp[intOf];omega
      · obtain rfl:k=n:=by omega
        have ha:=HA.out;rw[List.take_of_length_le (by rw[HN.out];exact Nat.le_refl _)]at ha;clear hlt hk HA
        by_cases h0:0<k
        · have h0l:0<l.length:=by rw[HN.out];exact h0
          have E:=yH (name_of_all l h0l ha);have hcell:=HC.out 0 h0l;obtain⟨F,hF⟩:∃F,firstR (l[0]:Nat)=F:=⟨_,rfl⟩;have E2:=yH (show nameL l=(decide (k≤12)&&F) by rw[E.out,hF,HN.out]);obtain⟨x,hx⟩:∃x:Int,((l[0]:Nat):Int)=x:=⟨_,rfl⟩;rw[hx]at hcell hF;have HX:=yH hF;have h1:(0:Int)<k:=(by omega);clear hx hF h0l E ha h0
          by_cases h12:k≤12
          · have h2:(k:Int)≤12:=by omega
            have E3:=yH (show nameL l=F by rw[E2.out,decide_eq_true h12,Bool.true_and]);clear h12 E2
            go_wp2_with (go_at_call 96;refine(rfirst_any _ _).mono ?_;rintro e w2 ⟨rfl,rfl⟩;rw[HX.out])
            go_ret;exact⟨ret_bool (by rw[E3.out]),HB.out⟩
          · have h2:¬(k:Int)≤12:=by omega
            have E3:=yH (show nameL l=false by rw[E2.out,decide_eq_false h12,Bool.false_and]);clear h12 E2;go_wp2_with fail;go_ret;exact⟨ret_bool (by rw[E3.out]),HB.out⟩
        · obtain rfl:k=0:=by omega
          have hl0:l= []:=List.eq_nil_of_length_eq_zero HN.out;have E:=yH (show nameL l=false by rw[hl0];rfl);clear ha h0 hl0;go_wp2_with fail;go_ret;exact⟨ret_bool (by rw[E.out]),HB.out⟩
end Go.Proofs.YtcpmjkefbjbhpaaGreatDoor
