/-
  Proved: contracts of functions, plain facts. Conditions: as each says.
-/
import Derived.Test.YtcpmjkefbjbhpaaGreatDoorSw02
import Derived.Test.YtcpmjkefbjbhpaaGreatDoorRows
import Derived.Deep.MidRow
import Derived.Deep.AppendLies
import Derived.Lib.Hide
import Derived.WalkKit
import Derived.OwnWalk
import Derived.Lib.FrozenHead
import Derived.IntWalk
import Derived.WalkSpells
import Derived.WalkLawsBesides
import Derived.Below
import Derived.LoopTactic
import Derived.Laws.Strings3
import Derived.RegionTactic
import Derived.Deep.QuietTactic
import Derived.BigQuiet
import Derived.BigCall
import Derived.BigGuard
import Derived.Lib.IndexLaws
import Derived.Laws.Runes
import Derived.Lib.OthersKept
import Derived.Laws.Cover4
import Derived.Lib.LaidU8
namespace Go.Proofs.YtcpmjkefbjbhpaaGreatDoor.LexMath
open Go Go.Lib GlyphMath
def eb (c:Nat):List UInt8:=
  if c<128 then [UInt8.ofNat c]
  else if c<2048 then [UInt8.ofNat (192+c/64),UInt8.ofNat (128+c % 64)]
  else if c<65536 then [UInt8.ofNat (224+c/4096),UInt8.ofNat (128+c/64 % 64),UInt8.ofNat (128+c % 64)]
  else [UInt8.ofNat (240+c/262144),UInt8.ofNat (128+c/4096 % 64),UInt8.ofNat (128+c/64 % 64),UInt8.ofNat (128+c % 64)]
def enc:List Nat→List UInt8
  | []=> []
  |c::r=>eb c++enc r
structure Pt where
  kind:Int
  text:List UInt8
  op:List UInt8
  word:List Pt
  q:Bool
structure Tk where
  kind:Int
  text:List UInt8
  word:List Pt
  at_:Nat
def GoodL (c:Nat):Prop:=0<c∧c≤1114111∧(c<55296∨57343<c)
def acts (r:Nat):Bool:=r==34||r==36||r==92
def begins (r:Nat):Bool:=r==39||acts r
def ends (r:Nat) (deep:Bool):Bool:=if deep then r==125 else blankR r||(r==59||r==38||r==124||r==40||r==41||r==60||r==62)
def other (r:Nat):Bool:=decide (49≤r∧r≤57)||(r==64||r==35||r==63)
def reckons (r:Nat):Bool:=moreR r||(r==32||r==9||r==43||r==45||r==42||r==47||r==37||r==40||r==41||r==60||r==62||r==61||r==33)
def next:List Nat→Nat
  | []=>0
  |c::_=>c
def takes:List Nat→List Nat→Option (List Nat)
  | [],xs=>some xs
  |_::_,[]=>none
  |p::ps,x::xs=>if p=x then takes ps xs else none
def got (S:Nat→Bool):List Nat→List Nat
  | []=> []
  |c::r=>if S c then []else c::got S r
def left (S:Nat→Bool):List Nat→List Nat
  | []=> []
  |c::r=>if S c then c::r else left S r
def lit:List Pt→List UInt8→Bool→List Pt
  | [],t,q=> [⟨1,t,[],[],q⟩]
  | [p],t,q=>if p.kind=1∧p.q=q then [{ p with text:=p.text++t }]else [p,⟨1,t,[],[],q⟩]
  |p::p'::r,t,q=>p::lit (p'::r) t q
theorem lit_last (ps:List Pt) (p:Pt) (t:List UInt8) (q:Bool):lit (ps++ [p]) t q=if p.kind=1∧p.q=q then ps++ [{ p with text:=p.text++t }]else ps++ [p]++ [⟨1,t,[],[],q⟩]:=by
  induction ps with
  |nil=>simp only[List.nil_append,lit];split<;>simp
  |cons a r ih=>
    cases r with
    |nil=>simp only[List.cons_append,List.nil_append,lit];split<;>rfl
    |cons b r=>simp only[List.cons_append,lit]at ih ⊢;rw[ih];split<;>simp
abbrev Res (α:Type):=Except Nat (α×List Nat)
def escapedM (xs:List Nat) (ps:List Pt):Res (List Pt):=
  match xs.tail with
  | []=> .error 2
  |c::r=> .ok (lit ps (enc [c]) true,r)
def singleM (xs:List Nat) (ps:List Pt):Res (List Pt):=
  match takes [39] (left (fun r=>r==39) xs.tail)with
  |none=> .error 2
  |some r=> .ok (lit ps (enc (got (fun r=>r==39) xs.tail)) true,r)
def escapedWithinM (xs:List Nat) (ps:List Pt):Res (List Pt):=
  match xs.tail with
  | []=> .error 2
  |c::r=> .ok (lit (if acts c then ps else lit ps [92] true) (enc [c]) true,r)
def parameterM (xs:List Nat):Res (List Nat):=
  if other (next xs)then .ok ([next xs],xs.tail)
  else if nameL (got (fun r=> !moreR r) xs)then .ok (got (fun r=> !moreR r) xs,left (fun r=> !moreR r) xs)
  else .error 2
def opM (name:Bool) (xs:List Nat):Option (List UInt8×List Nat):=
  match takes [58,45] xs with
  |some r=>some ([58,45],r)
  |none=>match takes [58,43] xs with
    |some r=>some ([58,43],r)
    |none=>if name then(match takes [58,61] xs with
      |some r=>some ([58,61],r)
      |none=>none)else none
def closeM (p:Pt) (xs:List Nat):Res Pt:=
  match takes [125] xs with
  |some r=> .ok (p,r)
  |none=> .error 2
def operationM (parts:List Nat→Res (List Pt)) (l:List Nat) (xs:List Nat):Res Pt:=
  if l= [35]∧firstR (next xs)=true then
    match parameterM xs with
    | .error e=> .error e
    | .ok (l',r)=> .ok (⟨2,enc l',[35],[],false⟩,r)
  else match opM (nameL l) xs with
    |none=> .error 2
    |some (o,r)=>match parts r with
      | .error e=> .error e
      | .ok (w,r')=> .ok (⟨2,enc l,o,w,false⟩,r')
def bracesM (lim:Bool) (parts:List Nat→Res (List Pt)) (xs:List Nat):Res Pt:=
  if lim then .error 3 else
  match parameterM xs with
  | .error e=> .error e
  | .ok (l,r)=>
    if next r=125 then closeM ⟨2,enc l,[],[],false⟩ r
    else match operationM parts l r with
      | .error e=> .error e
      | .ok (p,r')=>closeM p r'
def arithM:List Nat→Nat→List Nat→Res (List Nat)
  | [],_,_=> .error 2
  |c::r,n,acc=>
    if n=0∧c=41 then(if next r=41 then .ok (acc,r.tail)else .error 2)
    else if reckons c then arithM r (if c=40 then n+1 else if c=41 then n-1 else n) (acc++ [c])
    else .error 2
def dollarM (br:List Nat→Res Pt) (q:Bool) (xs:List Nat) (ps:List Pt):Res (List Pt):=
  match takes [123] xs.tail with
  |some r=>match br r with
    | .error e=> .error e
    | .ok (p,r')=> .ok (ps++ [{ p with q:=q }],r')
  |none=>match takes [40,40] xs.tail with
    |some r=>match arithM r 0 []with
      | .error e=> .error e
      | .ok (l,r')=> .ok (ps++ [⟨3,enc l,[],[],q⟩],r')
    |none=>
      if firstR (next xs.tail)||other (next xs.tail)then
        match parameterM xs.tail with
        | .error e=> .error e
        | .ok (l,r')=> .ok (ps++ [⟨2,enc l,[],[],q⟩],r')
      else .ok (lit ps [36] true,xs.tail)
def withinM (br:List Nat→Res Pt) (xs:List Nat) (ps:List Pt):Res (List Pt):=
  if next xs=0 then .error 2
  else if next xs=92 then escapedWithinM xs ps
  else if next xs=36 then dollarM br true xs ps
  else .ok (lit ps (enc (got acts xs)) true,left acts xs)
def doubleL (br:List Nat→Res Pt):Nat→List Nat→List Pt→Res (List Pt)
  |0,_,_=> .error 0
  |f+1,xs,ps=>
    match takes [34] xs with
    |some r=> .ok (ps,r)
    |none=>match withinM br xs ps with
      | .error e=> .error e
      | .ok (ps',xs')=>doubleL br f xs' ps'
def doubleM (br:List Nat→Res Pt) (xs:List Nat) (ps:List Pt):Res (List Pt):=
  doubleL br (xs.length+1) xs.tail (if next xs.tail=34 then lit ps [] true else ps)
def partM (br:List Nat→Res Pt) (deep:Bool) (xs:List Nat) (ps:List Pt):Res (List Pt):=
  if next xs=92 then escapedM xs ps
  else if next xs=39 then singleM xs ps
  else if next xs=34 then doubleM br xs ps
  else if next xs=36 then dollarM br false xs ps
  else .ok (lit ps (enc (got (fun r=>begins r||ends r deep) xs)) false,left (fun r=>begins r||ends r deep) xs)
def partsL (br:List Nat→Res Pt) (deep:Bool):Nat→List Nat→List Pt→Res (List Pt)
  |0,_,_=> .error 0
  |f+1,xs,ps=>
    if next xs=0∨ends (next xs) deep=true then .ok (ps,xs)
    else match partM br deep xs ps with
      | .error e=> .error e
      | .ok (ps',xs')=>partsL br deep f xs' ps'
def partsM:Nat→List Nat→Res (List Pt)
  |0,xs=>partsL (bracesM true fun _=> .error 0) true (xs.length+1) xs []
  |d+1,xs=>partsL (bracesM false (partsM d)) (decide (d<19)) (xs.length+1) xs []
def signs:List (List Nat):= [[38,38],[124,124],[59,59],[62,62],[59],[124],[40],[41],[62],[60],[10]]
def signM:List (List Nat)→List Nat→Option (List Nat×List Nat)
  | [],_=>none
  |p::r,xs=>match takes p xs with
    |some ys=>some (p,ys)
    |none=>signM r xs
def skipM (xs:List Nat):List Nat:=
  if next (left (fun r=>r !=32&&r !=9) xs)=35 then left (fun r=>r==10) (left (fun r=>r !=32&&r !=9) xs)else left (fun r=>r !=32&&r !=9) xs
def tokenM (n:Nat) (xs:List Nat):Res Tk:=
  match signM signs xs with
  |some (p,r)=> .ok (⟨2,enc p,[],n⟩,r)
  |none=>
    if next xs=38 then .error 2
    else match partsM 20 xs with
      | .error e=> .error e
      | .ok (ps,r)=> .ok (⟨1,[],ps,n⟩,r)
def tokensL (sz:Nat):Nat→List Nat→List Tk→Except (Nat×Nat) (List Tk)
  |0,_,_=> .error (0,0)
  |f+1,xs,l=>
    if skipM xs= []then .ok (l++ [⟨3,[],[],sz⟩])
    else match tokenM (sz-(enc (skipM xs)).length) (skipM xs)with
      | .error e=> .error (sz-(enc (skipM xs)).length,e)
      | .ok (t,r)=>tokensL sz f r (l++ [t])
def tokensM (xs:List Nat):Except (Nat×Nat) (List Tk):=tokensL (enc xs).length (xs.length+1) xs []
theorem eb_length (c:Nat):1≤(eb c).length∧(eb c).length≤4:=by
  unfold eb
  repeat' split
  all_goals simp
theorem enc_length:∀l:List Nat,l.length≤(enc l).length∧(enc l).length≤4*l.length
  | []=>by simp[enc]
  |c::r=>by
    have h:=eb_length c;have ih:=enc_length r;simp only[enc,List.length_append,List.length_cons];omega
theorem enc_append:∀a b:List Nat,enc (a++b)=enc a++enc b
  | [],_=>rfl
  |c::r,b=>by simp[enc,enc_append r b,List.append_assoc]
theorem got_left (S:Nat→Bool):∀l:List Nat,got S l++left S l=l
  | []=>rfl
  |c::r=>by
    unfold got left
    cases S c with
    |true=>rfl
    |false=>simp[got_left S r]
theorem got_length (S:Nat→Bool) (l:List Nat):(got S l).length+(left S l).length=l.length:=by
  have h:=congrArg List.length (got_left S l)
  rwa [List.length_append]at h
theorem left_head (S:Nat→Bool):∀l:List Nat,left S l= []∨S (next (left S l))=true
  | []=> .inl rfl
  |c::r=>by
    unfold left
    cases h:S c with
    |true=>right;simpa [next]using h
    |false=>simpa using left_head S r
theorem left_lt (S:Nat→Bool) (c:Nat) (r:List Nat) (h:S c=false):(left S (c::r)).length<(c::r).length:=by
  have:=got_length S r;unfold left;rw[h];simp;omega
theorem takes_length:∀(p xs ys:List Nat),takes p xs=some ys→xs=p++ys
  | [],xs,ys,h=>by simp[takes]at h;simp[h]
  |_::_,[],ys,h=>by simp[takes]at h
  |p::ps,x::xs,ys,h=>by
    unfold takes at h
    by_cases e:p=x
    · rw[if_pos e]at h
      rw[e,takes_length ps xs ys h];rfl
    · rw[if_neg e]at h;cases h
theorem takes_one (c:Nat) (xs:List Nat):takes [c] xs=if next xs=c∧xs≠ []then some xs.tail else none:=by
  cases xs with
  |nil=>simp[takes]
  |cons x r=>
    unfold takes
    by_cases e:c=x
    · simp[e,next,takes]
    · rw[if_neg e,if_neg];intro h;exact e h.1.symm
def Suf (xs ys:List Nat):Prop:=∃l,xs=l++ys
theorem Suf.refl (xs:List Nat):Suf xs xs:=⟨[],rfl⟩
theorem Suf.trans {a b c:List Nat} (h:Suf a b) (k:Suf b c):Suf a c:=by
  obtain⟨l,rfl⟩:=h;obtain⟨m,rfl⟩:=k;exact⟨l++m,(List.append_assoc _ _ _).symm⟩
theorem Suf.len {a b:List Nat} (h:Suf a b):b.length≤a.length:=by
  obtain⟨l,rfl⟩:=h;simp
theorem Suf.tail (a:List Nat):Suf a a.tail:=by
  cases a with
  |nil=>exact Suf.refl _
  |cons c r=>exact⟨[c],rfl⟩
theorem Suf.left (S:Nat→Bool) (a:List Nat):Suf a (left S a):=⟨got S a,(got_left S a).symm⟩
theorem Suf.takes {p a b:List Nat} (h:takes p a=some b):Suf a b:=⟨p,takes_length p a b h⟩
theorem Suf.good {a b:List Nat} (h:Suf a b) (hg:∀c∈a,GoodL c):∀c∈b,GoodL c:=by
  obtain⟨l,rfl⟩:=h;exact fun c hc=>hg c (List.mem_append_right _ hc)
def Fits (xs:List Nat) (ps:List Pt):Prop:=ps.length+xs.length≤4000∧∀p∈ps,p.text.length+4*xs.length≤16000
theorem Fits.nil (xs:List Nat) (h:xs.length≤4000):Fits xs []:=⟨by simpa using h,fun _ h=>by cases h⟩
theorem Fits.mono {xs ys:List Nat} {ps:List Pt} (h:Fits xs ps) (hl:ys.length≤xs.length):Fits ys ps:=⟨by have:=h.1;omega,fun p hp=>by have:=h.2 p hp;omega⟩
theorem Fits.add {xs ys:List Nat} {ps:List Pt} (h:Fits xs ps) {p:Pt} (hl:ys.length+1≤xs.length) (ht:p.text.length+4*ys.length≤16000):Fits ys (ps++ [p]):=
  ⟨by have:=h.1;rw[List.length_append,List.length_singleton];omega,fun x hx=>by
    rcases List.mem_append.1 hx with hx|hx
    · have:=h.2 x hx;omega
    · obtain rfl:x=p:=by simpa using hx
      exact ht⟩
theorem Fits.lit {xs ys:List Nat} {ps:List Pt} (h:Fits xs ps) (t:List UInt8) (q:Bool) (hl:ys.length+1≤xs.length) (ht:t.length+4*ys.length≤4*xs.length):Fits ys (lit ps t q):=by
  have h0:=h.1
  rcases List.eq_nil_or_concat ps with rfl|⟨r,p,rfl⟩
  · exact⟨by simp[LexMath.lit];omega,fun x hx=>by
      obtain rfl:x=_:=(by simpa [LexMath.lit]using hx);simp only
      omega⟩
  · rw[List.concat_eq_append]at h ⊢
    rw[lit_last];have hp:=h.2 p (by simp)
    split
    · refine⟨by have:=h.1;simp at this ⊢;omega,fun x hx=> ?_⟩
      rcases List.mem_append.1 hx with hx|hx
      · have:=h.2 x (by simp[hx]);omega
      · obtain rfl:x=_:=by simpa using hx
        simp only[List.length_append];omega
    · exact Fits.add h hl (by simp only;omega)
end Go.Proofs.YtcpmjkefbjbhpaaGreatDoor.LexMath
namespace Go.Proofs.YtcpmjkefbjbhpaaGreatDoor.TreeMath
open Go Go.Lib GlyphMath LexMath
abbrev T (l:List UInt8):ByteArray:=⟨l.toArray⟩
theorem T_size (l:List UInt8):(T l).size=l.length:=rfl
def metaB:List UInt8:= [32,9,10,59,38,124,40,41,60,62,39,34,36,92]
def metaW:List UInt8:= [39,34,36,92,125]
def anyIn (l cs:List UInt8):Bool:=l.any fun c=>cs.contains c
def nameT (l:List UInt8):Bool:=nameL (letters (T l))
def textT (l:List UInt8):Bool:=isText (T l)
def otherT:List UInt8→Bool
  | [c]=> [49,50,51,52,53,54,55,56,57,64,35,63].contains c
  |_=>false
def reckB:List UInt8:= [32,9,43,45,42,47,37,40,41,60,62,61,33]
def reckT (c:UInt8):Bool:=moreR (c.toNat:Int)||reckB.contains c
def arithT:List UInt8→Nat→Bool
  | [],n=>n==0
  |c::r,n=>if c=40 then arithT r (n+1)else if c=41 then n !=0&&arithT r (n-1)else reckT c&&arithT r n
def litT (within:Bool) (p:Pt):Bool:=textT p.text&&(p.q||(!p.text.isEmpty&& !anyIn p.text (if within then metaW else metaB)))
def varT (row:List Pt→Bool) (p:Pt):Bool:=
  if nameT p.text||otherT p.text then
    if p.op= []then p.word.isEmpty
    else if p.op= [35]then nameT p.text&&p.word.isEmpty
    else if p.op= [58,61]then nameT p.text&&row p.word
    else if p.op= [58,45]then row p.word
    else if p.op= [58,43]then row p.word
    else false
  else false
def partT (row:List Pt→Bool) (within:Bool) (p:Pt):Bool:=
  if p.kind=1 then p.op.isEmpty&&(p.word.isEmpty&&litT within p)
  else if p.kind=2 then varT row p
  else if p.kind=3 then p.op.isEmpty&&(p.word.isEmpty&&arithT p.text 0)
  else false
def oneT (a b:Pt):Bool:=a.kind==1&&(b.kind==1&&a.q==b.q)
def sideT (f:Pt→Bool):Option Pt→List Pt→Bool
  |_,[]=>true
  |a,p::r=>f p&&(!(a.any fun x=>oneT x p)&&sideT f (some p) r)
def rowT:Nat→List Pt→Bool
  |0,_=>false
  |k+1,ps=>sideT (partT (rowT k) (decide (k<20))) none ps
def wordT (ps:List Pt):Bool:= !ps.isEmpty&&rowT 21 ps
def bareT (p:Pt):Bool:=p.kind==1&& !p.q
def openT:List Pt→List UInt8
  | []=> []
  |p::_=>if bareT p then p.text else []
def plainT:List Pt→Option (List UInt8)
  | [p]=>if bareT p then some p.text else none
  |_=>none
def hashT:List UInt8→Bool
  |c::_=>c==35
  | []=>false
def bareW (ps:List Pt):Bool:=wordT ps&& !hashT (openT ps)
def aheadT:List UInt8→Option (List UInt8)
  | []=>none
  |c::r=>if c=61 then some []else (aheadT r).map (c:: ·)
def givesT (ps:List Pt):Bool:=match aheadT (openT ps)with
  |some n=>nameT n
  |none=>false
def reservedL:List (List UInt8):= [[105,102],[116,104,101,110],[101,108,105,102],[101,108,115,101],[102,105],[119,104,105,108,101],[117,110,116,105,108],[100,111],[100,111,110,101],[102,111,114],[105,110],[99,97,115,101],[101,115,97,99],[123],[125],[33]]
def reservedT (l:List UInt8):Bool:=reservedL.contains l
structure Nd where
  op:List UInt8
  name:List UInt8
  kids:List Int
  words:List (List Pt)
  pats:List (List (List Pt))
  assigns:List (List UInt8×List Pt)
  redirs:List (List UInt8×List Pt)
structure Sh where
  op:List UInt8
  k0:Int
  k1:Int
  w0:Int
  w1:Int
  name:Bool
  pats:Bool
  assigns:Bool
  redirs:Bool
def shapesL:List Sh:= [
  ⟨[99,109,100],0,0,0,9223372036854775807,false,false,true,true⟩,
  ⟨[115,101,113],2,9223372036854775807,0,0,false,false,false,false⟩,
  ⟨[97,110,100],2,2,0,0,false,false,false,false⟩,
  ⟨[111,114],2,2,0,0,false,false,false,false⟩,
  ⟨[110,111,116],1,1,0,0,false,false,false,false⟩,
  ⟨[112,105,112,101],2,9223372036854775807,0,0,false,false,false,false⟩,
  ⟨[105,102],2,3,0,0,false,false,false,true⟩,
  ⟨[119,104,105,108,101],2,2,0,0,false,false,false,true⟩,
  ⟨[117,110,116,105,108],2,2,0,0,false,false,false,true⟩,
  ⟨[102,111,114],1,1,0,9223372036854775807,true,false,false,true⟩,
  ⟨[99,97,115,101],0,9223372036854775807,1,1,false,true,false,true⟩,
  ⟨[102,117,110],1,1,0,0,true,false,false,false⟩,
  ⟨[103,114,111,117,112],1,1,0,0,false,false,false,true⟩,
  ⟨[115,117,98],1,1,0,0,false,false,false,true⟩]
def hasT (a b n:Int):Bool:=decide (a≤n)&&decide (n≤b)
def shapeT (s:Sh) (n:Nd):Bool:=
  hasT s.k0 s.k1 n.kids.length&&(hasT s.w0 s.w1 n.words.length&&((s.name== !n.name.isEmpty)&&((n.pats.length==(if s.pats then n.kids.length else 0))&&((s.assigns||n.assigns.isEmpty)&&(s.redirs||n.redirs.isEmpty)))))
def fitsT (n:Nd):Bool:=match shapesL.find? (fun s=>s.op==n.op)with
  |some s=>shapeT s n
  |none=>false
def commandT (n:Nd):Bool:=match n.words with
  | []=> !n.assigns.isEmpty|| !n.redirs.isEmpty
  |w::_=> !givesT w&&(!n.assigns.isEmpty||(match plainT w with|none=>true|some t=> !reservedT t))
def assignT (a:List UInt8×List Pt):Bool:=nameT a.1&&wordT a.2
def redirT (r:List UInt8×List Pt):Bool:=(r.1== [60]||(r.1== [62]||r.1== [62,62]))&&bareW r.2
def patT (l:List (List Pt)):Bool:= !l.isEmpty&&l.all bareW
def beginT (n:Nd):Bool:=if n.op= [99,109,100]then commandT n else if n.op= [102,117,110]then !reservedT n.name else true
def spellsT (n:Nd):Bool:=beginT n&&((n.name.isEmpty||nameT n.name)&&(n.words.all bareW&&(n.pats.all patT&&(n.assigns.all assignT&&n.redirs.all redirT))))
def rankT (op:List UInt8):Int:=if op= [115,101,113]then 4 else if op= [97,110,100]then 3 else if op= [111,114]then 3 else if op= [110,111,116]then 2 else if op= [112,105,112,101]then 1 else 0
def takesT (n:Nd) (i:Nat) (k:Nd):Bool:=
  if n.op= [102,117,110]then (k.op== [103,114,111,117,112]||k.op== [115,117,98])&&k.redirs.isEmpty
  else if(n.op= [97,110,100]∨n.op= [111,114])∧i=0 then decide (rankT k.op≤rankT n.op)
  else rankT n.op==0||decide (rankT k.op<rankT n.op)
def kidsT (walk:Int→Nat→Option Nat) (ns:List Nd) (n:Nd):Nat→List Int→Nat→Option Nat
  |_,[],next=>some next
  |i,k::ks,next=>match walk k next with
    |none=>none
    |some m=>match ns[k.toNat]? with
      |none=>none
      |some kd=>if takesT n i kd then kidsT walk ns n (i+1) ks m else none
def walkT (ns:List Nd):Nat→Int→Nat→Option Nat
  |0,_,_=>none
  |f+1,k,next=>if k=next then match ns[next]? with
      |none=>none
      |some n=>if fitsT n&&spellsT n then kidsT (walkT ns f) ns n 0 n.kids (next+1)else none
    else none
def isT (ns:List Nd) (root:Int):Bool:=decide (ns.length≤200)&&(walkT ns ns.length root 0==some ns.length)
end Go.Proofs.YtcpmjkefbjbhpaaGreatDoor.TreeMath
namespace Go.Proofs.YtcpmjkefbjbhpaaGreatDoor.LexMath
open Go Go.Lib GlyphMath
def Less (xs ys:List Nat):Prop:=Suf xs ys∧ys.length<xs.length
theorem Less.suf {a b c:List Nat} (h:Less a b) (k:Suf b c):Less a c:=⟨h.1.trans k,by have:=k.len;have:=h.2;omega⟩
theorem Suf.less {a b c:List Nat} (h:Suf a b) (k:Less b c):Less a c:=⟨h.trans k.1,by have:=h.len;have:=k.2;omega⟩
theorem tail_less {xs:List Nat} (h:xs≠ []):Less xs xs.tail:=by
  cases xs with
  |nil=>exact absurd rfl h
  |cons a r=>exact⟨Suf.tail _,by simp⟩
theorem takes_less {p xs ys:List Nat} (h:takes p xs=some ys) (hp:p≠ []):Less xs ys:=by
  refine⟨Suf.takes h,?_⟩;rw[takes_length p xs ys h,List.length_append];have:=List.length_pos_iff.2 hp;omega
theorem escaped_less {xs ys:List Nat} {ps qs:List Pt} (h:escapedM xs ps= .ok (qs,ys)):Less xs ys∧(Fits xs ps→Fits ys qs):=by
  unfold escapedM at h
  cases ht:xs.tail with
  |nil=>rw[ht]at h;cases h
  |cons c r=>
    rw[ht]at h
    cases h
    have hx:xs≠ []:=fun e=>(by rw[e]at ht;cases ht);have h1:=tail_less hx;rw[ht]at h1;have h2:Less xs ys:=h1.suf ⟨[c],rfl⟩;have h3:=h1.2;simp only[List.length_cons]at h3;exact⟨h2,fun hf=>hf.lit _ _ (by omega) (by have:=(enc_length [c]).2;simp only[List.length_singleton]at this;omega)⟩
theorem escapedWithin_less {xs ys:List Nat} {ps qs:List Pt} (h:escapedWithinM xs ps= .ok (qs,ys)):Less xs ys∧(Fits xs ps→Fits ys qs):=by
  unfold escapedWithinM at h
  cases ht:xs.tail with
  |nil=>rw[ht]at h;cases h
  |cons c r=>
    rw[ht]at h
    cases h
    have hx:xs≠ []:=fun e=>(by rw[e]at ht;cases ht);have h1:=tail_less hx;rw[ht]at h1;have h3:=h1.2;simp only[List.length_cons]at h3;have h2:Less xs ys:=h1.suf ⟨[c],rfl⟩;have h4:=(enc_length [c]).2;simp only[List.length_singleton]at h4;refine⟨h2,fun hf=> ?_⟩
    cases acts c with
    |true=>exact hf.lit _ _ (by omega) (by omega)
    |false=>
      have hf1:Fits (c::ys) (lit ps [92] true):=hf.lit _ _ (by simp only[List.length_cons];omega) (by simp only[List.length_cons,List.length_nil];omega);exact hf1.lit _ _ (by simp) (by simp only[List.length_cons];omega)
theorem single_less {xs ys:List Nat} {ps qs:List Pt} (h:singleM xs ps= .ok (qs,ys)) (hx:xs≠ []):Less xs ys∧(Fits xs ps→Fits ys qs):=by
  unfold singleM at h;have h1:=tail_less hx
  cases ht:takes [39] (left (fun r=>r==39) xs.tail)with
  |none=>rw[ht]at h;cases h
  |some r=>
    rw[ht]at h
    cases h
    have h2:=takes_less ht (by decide);have h3:=got_length (fun r=>r==39) xs.tail;have h4:=(enc_length (got (fun r=>r==39) xs.tail)).2;have h5:=h1.2;have h6:=h2.2;exact⟨h1.suf ((Suf.left _ _).trans h2.1),fun hf=>hf.lit _ _ (by omega) (by omega)⟩
theorem parameter_suf {xs ys:List Nat} {l:List Nat} (h:parameterM xs= .ok (l,ys)):Suf xs ys∧l.length+ys.length≤xs.length∧ys.length<xs.length:=by
  unfold parameterM at h
  cases xs with
  |nil=>
    have e1:other (next [])=false:=rfl;rw[e1]at h;simp[got,nameL]at h
  |cons a r=>
    split at h
    · cases h
      exact⟨⟨[a],rfl⟩,by simp only[List.length_cons,List.length_nil,List.tail_cons];omega,by simp⟩
    · split at h
      · rename_i hn
        cases h
        have h3:=got_length (fun r=> !moreR r) (a::r);refine⟨Suf.left _ _,by omega,?_⟩
        cases hg:got (fun r=> !moreR r) (a::r)with
        |nil=>rw[hg]at hn;simp[nameL]at hn
        |cons b s=>rw[hg,List.length_cons]at h3;omega
      · cases h
theorem op_suf {nm:Bool} {xs ys:List Nat} {o:List UInt8} (h:opM nm xs=some (o,ys)):Less xs ys:=by
  unfold opM at h
  split at h
  · rename_i hs;cases h;exact takes_less hs (by decide)
  · split at h
    · rename_i hs;cases h;exact takes_less hs (by decide)
    · split at h
      · split at h
        · rename_i hs;cases h;exact takes_less hs (by decide)
        · cases h
      · cases h
theorem close_less {xs ys:List Nat} {p q:Pt} (h:closeM p xs= .ok (q,ys)):Less xs ys∧q=p:=by
  unfold closeM at h
  split at h
  · rename_i hs;cases h;exact⟨takes_less hs (by decide),rfl⟩
  · cases h
def PartsOk (f:List Nat→Res (List Pt)):Prop:=∀xs ps ys,f xs= .ok (ps,ys)→Suf xs ys
def BraceOk (f:List Nat→Res Pt):Prop:=∀xs p ys,f xs= .ok (p,ys)→Less xs ys∧p.text.length+4*ys.length≤4*xs.length
theorem operation_ok {f:List Nat→Res (List Pt)} (hf:PartsOk f) {l xs ys:List Nat} {p:Pt} (h:operationM f l xs= .ok (p,ys)):Suf xs ys∧p.text.length+4*ys.length≤4*xs.length+4*l.length:=by
  unfold operationM at h
  split at h
  · cases hp:parameterM xs with
    |error e=>rw[hp]at h;cases h
    |ok a=>
      obtain⟨l',r⟩:=a;rw[hp]at h
      cases h
      obtain⟨h1,h2,_⟩:=parameter_suf hp;have:=(enc_length l').2;exact⟨h1,by simp only;omega⟩
  · cases hp:opM (nameL l) xs with
    |none=>rw[hp]at h;cases h
    |some a=>
      obtain⟨o,r⟩:=a;rw[hp]at h;simp only at h;have h1:=op_suf hp
      cases hq:f r with
      |error e=>rw[hq]at h;cases h
      |ok b=>
        obtain⟨w,r'⟩:=b;rw[hq]at h
        cases h
        have h2:=hf _ _ _ hq;have:=(enc_length l).2;have:=h2.len;have:=h1.2;exact⟨h1.1.trans h2,by simp only;omega⟩
theorem braces_ok {f:List Nat→Res (List Pt)} (hf:PartsOk f) (lim:Bool):BraceOk (bracesM lim f):=by
  intro xs p ys h;unfold bracesM at h
  split at h
  · cases h
  · cases hp:parameterM xs with
    |error e=>rw[hp]at h;cases h
    |ok a=>
      obtain⟨l,r⟩:=a;rw[hp]at h;simp only at h;obtain⟨h1,h2,h3⟩:=parameter_suf hp
      split at h
      · obtain⟨k1,rfl⟩:=close_less h
        have:=(enc_length l).2;have:=k1.2;exact⟨h1.less k1,by simp only;omega⟩
      · cases hq:operationM f l r with
        |error e=>rw[hq]at h;cases h
        |ok b=>
          obtain⟨p',r'⟩:=b;rw[hq]at h;simp only at h;obtain⟨k1,k2⟩:=close_less h;obtain⟨m1,m2⟩:=operation_ok hf hq;have:=k1.2;rw[k2];exact⟨(h1.trans m1).less k1,by omega⟩
theorem arith_suf:∀(xs:List Nat) (n:Nat) (acc l ys:List Nat),arithM xs n acc= .ok (l,ys)→Suf xs ys∧l.length+ys.length≤acc.length+xs.length∧(ys.length<xs.length)
  | [],n,acc,l,ys,h=>by cases h
  |c::r,n,acc,l,ys,h=>by
    rw[arithM]at h
    split at h
    · split at h
      · cases h
        cases r with
        |nil=>exact⟨⟨[c],rfl⟩,by simp,by simp⟩
        |cons d s=>exact⟨⟨[c,d],rfl⟩,by simp only[List.tail_cons,List.length_cons];omega,by simp only[List.tail_cons,List.length_cons];omega⟩
      · cases h
    · split at h
      · obtain⟨h1,h2,h3⟩:=arith_suf r _ _ _ _ h
        refine⟨Suf.trans ⟨[c],rfl⟩ h1,?_,?_⟩
        · simp only[List.length_append,List.length_nil,List.length_cons]at h2 ⊢;omega
        · simp only[List.length_cons];omega
      · cases h
theorem dollar_less {br:List Nat→Res Pt} (hb:BraceOk br) {q:Bool} {xs ys:List Nat} {ps qs:List Pt} (h:dollarM br q xs ps= .ok (qs,ys)) (hx:xs≠ []):Less xs ys∧(Fits xs ps→Fits ys qs):=by
  unfold dollarM at h;have h0:=tail_less hx;have h00:=h0.2
  split at h
  · rename_i r hs
    have h1:=takes_less hs (by decide);have h11:=h1.2
    cases hp:br r with
    |error e=>rw[hp]at h;cases h
    |ok a=>
      obtain⟨p,r'⟩:=a;rw[hp]at h
      cases h
      obtain⟨h2,h3⟩:=hb _ _ _ hp;have h22:=h2.2;exact⟨h0.suf (h1.1.trans h2.1),fun hf=>hf.add (by omega) (by have:=hf.1;simp only;omega)⟩
  · split at h
    · rename_i r hs
      have h1:=takes_less hs (by decide);have h11:=h1.2
      cases hp:arithM r 0 []with
      |error e=>rw[hp]at h;cases h
      |ok a=>
        obtain⟨l,r'⟩:=a;rw[hp]at h
        cases h
        obtain⟨h2,h3,h4⟩:=arith_suf _ _ _ _ _ hp;have h5:=(enc_length l).2;simp only[List.length_nil]at h3;exact⟨h0.suf (h1.1.trans h2),fun hf=>hf.add (by omega) (by have:=hf.1;simp only;omega)⟩
    · split at h
      · cases hp:parameterM xs.tail with
        |error e=>rw[hp]at h;cases h
        |ok a=>
          obtain⟨l,r'⟩:=a;rw[hp]at h
          cases h
          obtain⟨h2,h3,h4⟩:=parameter_suf hp;have h5:=(enc_length l).2;exact⟨h0.suf h2,fun hf=>hf.add (by omega) (by have:=hf.1;simp only;omega)⟩
      · cases h
        exact⟨h0,fun hf=>hf.lit _ _ (by omega) (by simp only[List.length_singleton];omega)⟩
theorem within_less {br:List Nat→Res Pt} (hb:BraceOk br) {xs ys:List Nat} {ps qs:List Pt} (h:withinM br xs ps= .ok (qs,ys)) (hn:next xs≠34):Less xs ys∧(Fits xs ps→Fits ys qs):=by
  unfold withinM at h;have hx:next xs≠0→xs≠ []:=fun h0 e=>h0 (by rw[e];rfl)
  split at h
  · cases h
  · rename_i h0
    split at h
    · exact escapedWithin_less h
    · split at h
      · exact dollar_less hb h (hx h0)
      · rename_i h1 h2
        cases h
        cases xs with
        |nil=>exact absurd rfl h0
        |cons c r=>
          simp only[next]at hn h0 h1 h2;have ha:acts c=false:=(by simp[acts,hn,h1,h2]);have h3:=left_lt acts c r ha;have h4:=got_length acts (c::r);have h5:=(enc_length (got acts (c::r))).2;exact⟨⟨Suf.left _ _,h3⟩,fun hf=>hf.lit _ _ (by omega) (by omega)⟩
theorem doubleL_less {br:List Nat→Res Pt} (hb:BraceOk br):∀(f:Nat) (xs ys:List Nat) (ps qs:List Pt),doubleL br f xs ps= .ok (qs,ys)→Suf xs ys∧(Fits xs ps→Fits ys qs)
  |0,_,_,_,_,h=>by cases h
  |f+1,xs,ys,ps,qs,h=>by
    rw[doubleL]at h
    split at h
    · rename_i r hs
      cases h
      have h1:=takes_less hs (by decide);have h2:=h1.2;exact⟨h1.1,fun hf=>hf.mono (by omega)⟩
    · rename_i hs
      cases hw:withinM br xs ps with
      |error e=>rw[hw]at h;cases h
      |ok a=>
        obtain⟨ps',xs'⟩:=a;rw[hw]at h;simp only at h
        have hn:next xs≠34:=fun e=>by
          rw[takes_one,if_pos ⟨e,fun e'=>by rw[e']at e;cases e⟩]at hs
          cases hs
        obtain⟨h1,h2⟩:=within_less hb hw hn;obtain⟨h3,h4⟩:=doubleL_less hb f _ _ _ _ h;exact⟨h1.1.trans h3,fun hf=>h4 (h2 hf)⟩
theorem double_less {br:List Nat→Res Pt} (hb:BraceOk br) {xs ys:List Nat} {ps qs:List Pt} (h:doubleM br xs ps= .ok (qs,ys)) (hx:xs≠ []):Less xs ys∧(Fits xs ps→Fits ys qs):=by
  unfold doubleM at h;have h0:=tail_less hx;have h00:=h0.2;obtain⟨h1,h2⟩:=doubleL_less hb _ _ _ _ _ h;refine⟨h0.suf h1,fun hf=>h2 ?_⟩
  split
  · exact hf.lit _ _ (by omega) (by simp only[List.length_nil];omega)
  · exact hf.mono (by omega)
theorem part_less {br:List Nat→Res Pt} (hb:BraceOk br) {deep:Bool} {xs ys:List Nat} {ps qs:List Pt} (h:partM br deep xs ps= .ok (qs,ys)) (hn:next xs≠0) (he:ends (next xs) deep=false):Less xs ys∧(Fits xs ps→Fits ys qs):=by
  unfold partM at h;have hx:xs≠ []:=fun e=>hn (by rw[e];rfl)
  split at h
  · exact escaped_less h
  · split at h
    · exact single_less h hx
    · split at h
      · exact double_less hb h hx
      · split at h
        · exact dollar_less hb h hx
        · rename_i h1 h2 h3 h4
          cases h
          cases xs with
          |nil=>exact absurd rfl hn
          |cons c r=>
            simp only[next]at he h1 h2 h3 h4;have ha:(begins c||ends c deep)=false:=(by simp[begins,acts,h1,h2,h3,h4,he]);have h5:=left_lt (fun r=>begins r||ends r deep) c r ha;have h6:=got_length (fun r=>begins r||ends r deep) (c::r);have h7:=(enc_length (got (fun r=>begins r||ends r deep) (c::r))).2;exact⟨⟨Suf.left _ _,h5⟩,fun hf=>hf.lit _ _ (by omega) (by omega)⟩
theorem partsL_suf {br:List Nat→Res Pt} (hb:BraceOk br) {deep:Bool} :∀(f:Nat) (xs ys:List Nat) (ps qs:List Pt),partsL br deep f xs ps= .ok (qs,ys)→Suf xs ys
  |0,_,_,_,_,h=>by cases h
  |f+1,xs,ys,ps,qs,h=>by
    rw[partsL]at h
    split at h
    · cases h;exact Suf.refl _
    · rename_i hc
      cases hw:partM br deep xs ps with
      |error e=>rw[hw]at h;cases h
      |ok a=>
        obtain⟨ps',xs'⟩:=a;rw[hw]at h;simp only at h
        have h1:=(part_less hb hw (fun e=>hc (.inl e)) (by cases hh:ends (next xs) deep with
          |true=>exact absurd (.inr hh) hc
          |false=>rfl)).1
        exact h1.1.trans (partsL_suf hb f _ _ _ _ h)
theorem parts_ok:∀d,PartsOk (partsM d)
  |0=>fun xs ps ys h=>partsL_suf (braces_ok (f:=fun _=> .error 0) (fun _ _ _ h=>by cases h) true) _ _ _ _ _ h
  |d+1=>fun xs ps ys h=>partsL_suf (braces_ok (parts_ok d) false) _ _ _ _ _ h
end Go.Proofs.YtcpmjkefbjbhpaaGreatDoor.LexMath
namespace Go.Proofs.YtcpmjkefbjbhpaaGreatDoor
open Go Go.RowKit GlyphMath LexMath
structure Kept (D:Nat→Prop) (w w':World):Prop where
  os:w'.os=w.os
  tape:w'.tape=w.tape
  output:w'.output=w.output
  size:w.heap.size≤w'.heap.size
  block:∀k,k<w.heap.size→¬D k→w'.heap[k]? =w.heap[k]?
theorem Kept.refl (D:Nat→Prop) (w:World):Kept D w w:=⟨rfl,rfl,rfl,Nat.le_refl _,fun _ _ _=>rfl⟩
theorem Kept.mono {D D':Nat→Prop} {w w':World} (h:Kept D w w') (hD:∀k,k<w.heap.size→D k→D' k):Kept D' w w':=
  ⟨h.os,h.tape,h.output,h.size,fun k hk hn=>h.block k hk fun hd=>hn (hD k hk hd)⟩
theorem Kept.trans {D D':Nat→Prop} {a b c:World} (h:Kept D a b) (k:Kept D' b c) (hD:∀i,D' i→D i∨a.heap.size≤i):Kept D a c:=
  ⟨k.os.trans h.os,k.tape.trans h.tape,k.output.trans h.output,Nat.le_trans h.size k.size,fun i hi hn=>
    (k.block i (Nat.lt_of_lt_of_le hi h.size) fun hd=>(hD i hd).elim hn fun h'=>by omega).trans (h.block i hi hn)⟩
theorem Kept.on {D:Nat→Prop} {a b c:World} (h:Kept D a b) (k:Kept D b c):Kept D a c:=h.trans k fun _ h=> .inl h
theorem Kept.drew {D:Nat→Prop} {a w:World} (h:Kept D a w):Kept D a w.drew:=⟨h.os,h.tape,h.output,h.size,h.block⟩
theorem Kept.alloc {D:Nat→Prop} {a w:World} (h:Kept D a w) (o:Obj):Kept D a (w.alloc o):=
  ⟨h.os,h.tape,h.output,Nat.le_trans h.size (by simp),fun k hk hn=>(Below.heap_alloc w o k (Nat.lt_of_lt_of_le hk h.size)).trans (h.block k hk hn)⟩
theorem Kept.setCell {D:Nat→Prop} {a w:World} (h:Kept D a w) {p:Addr} (hp:D p.block∨a.heap.size≤p.block) (u:Value):Kept D a (w.setCell p u):=
  ⟨h.os,h.tape,h.output,by have:=h.size;simpa [World.setCell]using this,fun k hk hn=>(Below.heap_setCell w p u k (fun e=>by subst e;exact hp.elim hn fun h'=>by omega)).trans (h.block k hk hn)⟩
theorem Kept.grown {D:Nat→Prop} {a w w':World} {row:Option Nat} (h:Kept D a w) (hg:w.grownBy w' row) (hr:∀k,row=some k→D k∨a.heap.size≤k):Kept D a w':=
  ⟨hg.os.trans h.os,hg.tape.trans h.tape,hg.output.trans h.output,Nat.le_trans h.size hg.size,fun k hk hn=>
    (hg.block k (Nat.lt_of_lt_of_le hk h.size) (fun e=>(hr k e.symm).elim hn fun h'=>by omega)).trans (h.block k hk hn)⟩
theorem Kept.of_below {D:Nat→Prop} {w w':World} (h:Below w.heap.size w w'):Kept D w w':=⟨h.os,h.tape,h.output,h.size,fun k hk _=>h.block k hk⟩
theorem Kept.cell {D:Nat→Prop} {w w':World} (h:Kept D w w') {a:Addr} {v:Value} (hc:w.cell? a=some v) (hn:¬D a.block):w'.cell? a=some v:=
  (World.cell?_of_block (h.block a.block (World.block_lt_of_cell? w a hc) hn)).trans hc
theorem Kept.heap {D:Nat→Prop} {w w':World} (h:Kept D w w') {k:Nat} {o:Obj} (hk:w.heap[k]? =some o) (hn:¬D k):w'.heap[k]? =some o:=
  (h.block k (gS.1 hk).1 hn).trans hk
theorem cell_plain {w:World} {k:Nat} {cs:Array Value} {t:TypeId} {fz:Nat×Nat} (h:w.heap[k]? =some (.cells cs t fz)) (o:Nat):w.cell? ⟨k,o,none⟩=cs[o]? :=cell_of_row w k o cs t fz h
theorem frozen_plain {w:World} {k:Nat} {cs:Array Value} {t:TypeId} (h:w.heap[k]? =some (.cells cs t (0,0))) (o:Nat):w.frozen? ⟨k,o,none⟩=false:=Lib.frozen_of_heap h o
theorem heap_set_one {w:World} {k:Nat} {v:Value} {t:TypeId} (h:w.heap[k]? =some (.cells #[v] t (0,0))) (u:Value):(w.setCell ⟨k,0,none⟩ u).heap[k]? =some (.cells #[u] t (0,0)):=by
  simp[World.setCell,Array.getElem?_modify,h]
def txt (l:List UInt8):Value:= .string ⟨l.toArray⟩
def pcells (p:Pt) (wv:Value):List Value:= [.int .i64 p.kind,txt p.text,txt p.op,wv,.bool p.q]
def partV (p:Pt) (u:Value):Value:= .agg #[.int .i64 p.kind,txt p.text,txt p.op,u,.bool p.q]
def rowCells:List Pt→List Value→List Value
  |p::ps,v::vs=>pcells p v++rowCells ps vs
  |_,_=> []
theorem rowCells_append:∀(ps:List Pt) (vs:List Value) (qs:List Pt) (us:List Value),ps.length=vs.length→rowCells (ps++qs) (vs++us)=rowCells ps vs++rowCells qs us
  | [],[],_,_,_=>rfl
  |p::ps,v::vs,qs,us,h=>by
    simp only[List.cons_append,rowCells,rowCells_append ps vs qs us (by simpa using h),List.append_assoc]
  | [],_::_,_,_,h=>by simp at h
  |_::_,[],_,_,h=>by simp at h
theorem rowCells_length:∀(ps:List Pt) (vs:List Value),ps.length=vs.length→(rowCells ps vs).length=ps.length*5
  | [],[],_=>rfl
  |p::ps,v::vs,h=>by
    rw[rowCells,List.length_append,rowCells_length ps vs (by simpa using h),List.length_cons];simp only[pcells,List.length_cons,List.length_nil];omega
  | [],_::_,h=>by simp at h
  |_::_,[],h=>by simp at h
theorem rowCells_get:∀(ps:List Pt) (vs:List Value) (j:Nat) (p:Pt) (v:Value),ps[j]? =some p→vs[j]? =some v→ps.length=vs.length→∀i,i<5→(rowCells ps vs)[j*5+i]? =(pcells p v)[i]?
  | [],_,_,_,_,h,_,_,_,_=>by simp at h
  |_::_,[],_,_,_,_,h,_,_,_=>by simp at h
  |a::ps,b::vs,0,p,v,h1,h2,_,i,hi=>by
    simp only[List.getElem?_cons_zero,Option.some.injEq]at h1 h2;subst h1 h2;rw[rowCells,Nat.zero_mul,Nat.zero_add,List.getElem?_append_left (by simp[pcells];omega)]
  |a::ps,b::vs,j+1,p,v,h1,h2,hl,i,hi=>by
    simp only[List.getElem?_cons_succ]at h1 h2;rw[rowCells,show(j+1)*5+i=5+(j*5+i) by omega,List.getElem?_append_right (by simp[pcells])]
    simpa [pcells]using rowCells_get ps vs j p v h1 h2 (by simpa using hl) i hi
inductive WordV (w:World):(Nat→Prop)→Value→List Pt→Prop
  |row {F:Nat→Prop} (v:Value) (ps:List Pt) (vs:List Value):w.ownsRow 0 55 5 v ps.length (rowCells ps vs)→ps.length=vs.length→(∀g,v.ownBlock=some g→F g)→
      (∀(j:Nat) (p:Pt) (u:Value),ps[j]? =some p→vs[j]? =some u→WordV w (fun g=>F g∧v.ownBlock≠some g) u p.word)→WordV w F v ps
theorem ownsRow_same {w w':World} {B e size n:Nat} {v:Value} {xs:List Value} (h:w.ownsRow B e size v n xs) (hk:∀g,v.ownBlock=some g→w'.heap[g]? =w.heap[g]?):w'.ownsRow B e size v n xs:=by
  refine⟨h.1,?_⟩
  rcases h.2 with hn|⟨g,cap,cur,hv,hbg,hg,r⟩
  · exact .inl hn
  · exact .inr ⟨g,cap,cur,hv,hbg,(hk g (by rw[hv];rfl)).trans hg,r⟩
theorem ownsRow_base {w:World} {B C e size n:Nat} {v:Value} {xs:List Value} (h:w.ownsRow B e size v n xs) (hC:∀g,v.ownBlock=some g→C≤g):w.ownsRow C e size v n xs:=by
  refine⟨h.1,?_⟩
  rcases h.2 with hn|⟨g,cap,cur,hv,hbg,hg,r⟩
  · exact .inl hn
  · exact .inr ⟨g,cap,cur,hv,hC g (by rw[hv];rfl),hg,r⟩
theorem WordV.same {w w':World} {F:Nat→Prop} {v:Value} {ps:List Pt} (h:WordV w F v ps) (hk:∀g,F g→w'.heap[g]? =w.heap[g]?):WordV w' F v ps:=by
  induction h with
  |row v ps vs h1 h2 h3 _ ih=>exact .row v ps vs (ownsRow_same h1 fun g hg=>hk g (h3 g hg)) h2 h3 fun j p u hp hu=>ih j p u hp hu fun g hg=>hk g hg.1
theorem WordV.mono {w:World} {F F':Nat→Prop} {v:Value} {ps:List Pt} (h:WordV w F v ps) (hF:∀g,F g→F' g):WordV w F' v ps:=by
  induction h generalizing F' with
  |row v ps vs h1 h2 h3 _ ih=>exact .row v ps vs h1 h2 (fun g hg=>hF g (h3 g hg)) fun j p u hp hu=>ih j p u hp hu fun g hg=>⟨hF g hg.1,hg.2⟩
theorem WordV.nil (w:World) (F:Nat→Prop):WordV w F (.slice none 0 0) []:=
  .row _ [] [] (World.ownsRow_nil _ _ _ _) rfl (fun _ h=>by simp[Value.ownBlock]at h) (fun _ _ _ h=>by simp at h)
def WordN (w:World) (B:Nat) (v:Value) (ps:List Pt):Prop:=∃F,WordV w F v ps∧∀g,F g→B≤g∧g<w.heap.size
theorem WordN.nil (w:World) (B:Nat):WordN w B (.slice none 0 0) []:=⟨fun _=>False,WordV.nil _ _,fun _ h=>h.elim⟩
theorem WordN.kept {D:Nat→Prop} {w w':World} {B:Nat} {v:Value} {ps:List Pt} (h:WordN w B v ps) (hk:Kept D w w') (hD:∀k,B≤k→¬D k):WordN w' B v ps:=by
  obtain⟨F,h1,h2⟩:=h;exact⟨F,h1.same fun g hg=>hk.block g (h2 g hg).2 (hD g (h2 g hg).1),fun g hg=>⟨(h2 g hg).1,Nat.lt_of_lt_of_le (h2 g hg).2 hk.size⟩⟩
theorem WordN.base {w:World} {B C:Nat} {v:Value} {ps:List Pt} (h:WordN w B v ps) (hC:C≤B):WordN w C v ps:=by
  obtain⟨F,h1,h2⟩:=h;exact⟨F,h1,fun g hg=>⟨Nat.le_trans hC (h2 g hg).1,(h2 g hg).2⟩⟩
end Go.Proofs.YtcpmjkefbjbhpaaGreatDoor
namespace Go.Proofs.YtcpmjkefbjbhpaaGreatDoor
open Go Go.RowKit GlyphMath
theorem ret_bool {a b:Bool} (h:a=b):Ending.returned (.bool a)= .returned (.bool b):=by rw[h]
theorem bool_iff {a b:Bool} (h:a=true↔b=true):a=b:=Bool.eq_iff_iff.2 h
theorem first_any (r:Int) (w:World):
    Calls Tryz.prog 184 #[.int .i32 r] w fun e w'=>e= .returned (.bool (firstR r))∧w=w':=by
  go_enter Tryz.func184,Tryz.ntmps184;go_wp2_with fail
  all_goals
    go_ret;refine⟨ret_bool (bool_iff ?_),rfl⟩;unfold firstR
    first|(simp;done)|(simp;omega)
theorem more_any (r:Int) (w:World):
    Calls Tryz.prog 185 #[.int .i32 r] w fun e w'=>e= .returned (.bool (moreR r))∧w=w':=by
  unfold moreR
  generalize hF:firstR r=F
  have HF:=yH hF;clear hF
  cases F
  all_goals
    go_enter Tryz.func185,Tryz.ntmps185
    go_wp2_with (go_at_call 184;refine(first_any r _).mono ?_;rintro e w1 ⟨rfl,rfl⟩;(try rw[HF.out]))
  all_goals
    go_ret;refine⟨ret_bool (bool_iff ?_),rfl⟩
    first|(simp;done)|(simp;omega)
theorem below_iter (w:World) (s:ByteArray) (p:Nat):Below w.heap.size w (w.iter s p):=(Below.refl _ w).alloc (Nat.le_refl _) _
theorem slprefix_any (s p:ByteArray) (w:World):
    Calls Tryz.prog 132 #[.string s,.string p] w fun e w'=>e= .returned (.bool (Lib.hasPrefix s.data.toList p.data.toList))∧w=w':=by
  rw[←Lib.hasPrefix_raw]
  by_cases h:p.size≤s.size
  · go_enter Tryz.func132,Tryz.ntmps132
    go_wp2_with fail;go_ret;exact⟨ret_bool (by simp[h]),rfl⟩
  · go_enter Tryz.func132,Tryz.ntmps132
    go_wp2_with fail;go_ret;exact⟨ret_bool (by simp[h]),rfl⟩
theorem prefix_any (s p:ByteArray) (w:World):
    Calls Tryz.prog 100 #[.string s,.string p] w fun e w'=>e= .returned (.bool (Lib.hasPrefix s.data.toList p.data.toList))∧w=w':=by
  generalize hB:Lib.hasPrefix s.data.toList p.data.toList=B
  have HB:=yH hB;clear hB;go_enter Tryz.func100,Tryz.ntmps100
  go_wp2_with (go_at_call 132;refine(slprefix_any s p _).mono ?_;rintro e w1 ⟨rfl,rfl⟩;rw[HB.out])
  go_ret;exact⟨rfl,rfl⟩
theorem valid_any (s:ByteArray) (w:World):
    Calls Tryz.prog 56 #[.string s] w fun e w'=>e= .returned (.tuple #[.int .i64 (place s:Int),.bool (isText s)])∧Below w.heap.size w w':=by
  go_enter Tryz.func56,Tryz.ntmps56
  go_wp2
  go_loopw [4] (fun _ w'=> ∃(pos:Nat),w'=w.iter s pos∧badFrom s pos=firstBad s) (fun _ w'=>s.size-w'.iterPos w.heap.size)
  case atStart=>exact⟨0,rfl,rfl⟩
  case round=>
    obtain⟨pos,rfl,hk⟩:=hrel
    by_cases hp:pos<s.size
    · obtain⟨r,d,hd⟩:∃r d,Utf8.decode s pos=(r,d):=⟨_,_,rfl⟩
      have hnx:∀ty,(Instr.next (.pointer (some ⟨w.heap.size,0,none⟩)) true ty).run Tryz.prog (w.iter s pos)= .ok (.tuple #[.bool true,.int .i64 pos,.int .i32 (r:Int)]) (w.iter s (pos+d)):=fun ty=>(by rw[run_next_any w s pos ty hp,hd]);have hwd:=width_pos s pos hp;rw[badFrom_step s pos hp,bad_asked,hd]at hk;rw[hd]at hwd;simp only at hk hwd;clear hd;obtain⟨B,hB⟩:∃B,ownNone s pos=B:=⟨_,rfl⟩;rw[hB]at hk;have HB:=yH (show Lib.hasPrefix (s.extract pos s.size).data.toList (⟨#[239,191,189]⟩:ByteArray).data.toList=B from hB);clear hB
      by_cases b0:r=0
      · subst b0
        have e1:place s=pos:=(by unfold place;rw[←hk];rfl);have e2:isText s=false:=(by unfold isText;rw[←hk];rfl);have E:=yH (And.intro e1 e2);clear hk e1 e2 HB
        go_wp2
        go_ret2
        exact⟨by rw[E.out.1,E.out.2];rfl,below_iter w s _⟩
      · have b0':((r:Int)==0)=false:=by simpa using b0
        have c0:(r==0)=false:=by simpa using b0
        by_cases b1:r=65533
        · subst b1
          cases B with
          |true=>
            have HK:=yH (show badFrom s (pos+d)=firstBad s by rw[←hk];rfl);clear hk b0 c0
            go_wp2_with (go_at_call 100;refine(prefix_any _ _ _).mono ?_;rintro e w1 ⟨rfl,rfl⟩;rw[HB.out])
            go_roundw
            case rel=>exact⟨pos+d,rfl,HK.out⟩
            case measure=>simp;omega
          |false=>
            have e1:place s=pos:=(by unfold place;rw[←hk];rfl);have e2:isText s=false:=(by unfold isText;rw[←hk];rfl);have E:=yH (And.intro e1 e2);clear hk e1 e2 b0 c0
            go_wp2_with (go_at_call 100;refine(prefix_any _ _ _).mono ?_;rintro e w1 ⟨rfl,rfl⟩;rw[HB.out])
            go_ret2
            exact⟨by rw[E.out.1,E.out.2];rfl,below_iter w s _⟩
        · have b1':((r:Int)==65533)=false:=by
            have:¬(r:Int)=65533:=by omega
            simpa using this
          have c1:(r==65533)=false:=(by simpa using b1);have HK:=yH (show badFrom s (pos+d)=firstBad s by rw[←hk,c0,c1];rfl);clear hk b0 c0 b1 c1 HB;go_wp2_with fail
          go_roundw
          case rel=>exact⟨pos+d,rfl,HK.out⟩
          case measure=>simp;omega
    · have hnx:∀ty,(Instr.next (.pointer (some ⟨w.heap.size,0,none⟩)) true ty).run Tryz.prog (w.iter s pos)=_:=fun ty=>run_next_end w s pos ty hp
      rw[badFrom_end s pos hp]at hk;have e1:place s=s.size:=(by unfold place;rw[←hk];rfl);have e2:isText s=true:=(by unfold isText;rw[←hk];rfl);have E:=yH (And.intro e1 e2);clear hk e1 e2
      go_wp2
      go_ret2
      exact⟨by rw[E.out.1,E.out.2];rfl,below_iter w s pos⟩
theorem low_rest (s:ByteArray):∀n i,s.size-i≤n→i≤s.size→(rest s i).all (fun (x:Nat)=>moreR x)=true→(rest s i).length=s.size-i
  |0,i,hn,hi,_=>by rw[rest_end s i (by omega)];simp;omega
  |n+1,i,hn,hi,ha=>by
    by_cases h:i<s.size
    · rw[rest_step s i h,List.all_cons,Bool.and_eq_true]at ha
      have h1:(Utf8.decode s i).1<128:=by
        have:=ha.1;simp only[moreR,firstR,Bool.or_eq_true,decide_eq_true_eq]at this;omega
      have h2:(s[i]'h).toNat<128:=by
        rcases Nat.lt_or_ge (s[i]'h).toNat 128 with k|k
        · exact k
        · have:=(decode_high s i h k).1;omega
      have hd:=decode_ascii s i h h2;rw[hd]at ha;rw[rest_step s i h,hd,List.length_cons,low_rest s n (i+1) (by omega) (by omega) ha.2];omega
    · rw[rest_end s i h];simp;omega
theorem name_few (s:ByteArray) (h0:0<s.size) (h1:s.size≤12):nameL (letters s)=(firstR (Utf8.decode s 0).1&&(letters s).all (fun (x:Nat)=>moreR x)):=by
  have hl:=letters_length s;have e:=rest_step s 0 h0;rw[rest_zero]at e;have e2:nameL (letters s)=(firstR (Utf8.decode s 0).1&&(letters s).all (fun (x:Nat)=>moreR x)&&decide ((letters s).length≤12)):=(by rw[e];rfl);rw[e2,decide_eq_true (by omega),Bool.and_true]
theorem name_long (s:ByteArray) (h:12<s.size):nameL (letters s)=false:=by
  have e:=rest_step s 0 (by omega);rw[rest_zero]at e;have e2:nameL (letters s)=(firstR (Utf8.decode s 0).1&&(letters s).all (fun (x:Nat)=>moreR x)&&decide ((letters s).length≤12)):=(by rw[e];rfl)
  cases ha:(letters s).all (fun (x:Nat)=>moreR x)with
  |false=>rw[e2,ha];simp
  |true=>
    have:=low_rest s s.size 0 (by omega) (by omega) (by rw[rest_zero];exact ha);rw[rest_zero]at this;rw[e2,decide_eq_false (by omega)];simp
theorem nonempty (s:ByteArray) (h:0<s.size):s.toList.isEmpty=false:=by
  rw[Lib.toList_data];rw[Lib.size_eq]at h
  match hl:s.data.toList with
  | []=>rw[hl]at h;simp at h
  |_::_=>rfl
theorem name_none (w:World):
    Calls Tryz.prog 148 #[.string ⟨#[]⟩] w fun e w'=>e= .returned (.bool false)∧Below w.heap.size w w':=by
  go_enter Tryz.func148,Tryz.ntmps148;go_wp2_with fail;go_ret;exact⟨rfl,Below.refl _ _⟩
theorem name_many (s:ByteArray) (w:World) (h:12<s.size):
    Calls Tryz.prog 148 #[.string s] w fun e w'=>e= .returned (.bool false)∧Below w.heap.size w w':=by
  have hE:=nonempty s (by omega);have hL:(12:Int)<s.size:=(by omega);clear h;go_enter Tryz.func148,Tryz.ntmps148;go_wp2_with fail;go_ret;exact⟨rfl,Below.refl _ _⟩
theorem name_in (s:ByteArray) (Q:Bool) (w:World) (h0:0<s.size) (h1:s.size≤12) (hQ:Q=(firstR (Utf8.decode s 0).1&&(letters s).all (fun (x:Nat)=>moreR x))):
    Calls Tryz.prog 148 #[.string s] w fun e w'=>e= .returned (.bool Q)∧Below w.heap.size w w':=by
  have hE:=nonempty s h0;have hL:(s.size:Int)≤12:=(by omega);have HQ:=yH hQ;clear hQ h1;go_enter Tryz.func148,Tryz.ntmps148
  go_wp2
  go_loopw [3] (fun _ w'=> ∃(pos:Nat),w'=w.iter s pos∧(pos=0∨0<pos∧Q=(rest s pos).all (fun (x:Nat)=>moreR x))) (fun _ w'=>s.size-w'.iterPos w.heap.size)
  case atStart=>exact⟨0,rfl,.inl rfl⟩
  case round=>
    obtain⟨pos,rfl,hk⟩:=hrel
    by_cases hp:pos<s.size
    · obtain⟨r,d,hd⟩:∃r d,Utf8.decode s pos=(r,d):=⟨_,_,rfl⟩
      have hnx:∀ty,(Instr.next (.pointer (some ⟨w.heap.size,0,none⟩)) true ty).run Tryz.prog (w.iter s pos)= .ok (.tuple #[.bool true,.int .i64 pos,.int .i32 (r:Int)]) (w.iter s (pos+d)):=fun ty=>(by rw[run_next_any w s pos ty hp,hd]);have hwd:=width_pos s pos hp;have hst:=rest_step s pos hp;rw[hd]at hst hwd;simp only at hst hwd;obtain⟨F,hF⟩:∃F,firstR (r:Int)=F:=⟨_,rfl⟩;obtain⟨M,hM⟩:∃M,moreR (r:Int)=M:=⟨_,rfl⟩;have HF:=yH hF;have HM:=yH hM
      rcases hk with rfl|⟨hpos,hk⟩
      · have hq:=HQ.out
        rw[hd,←rest_zero,hst,List.all_cons,hM,hF]at hq;have HK:=yH hq;clear hF hM hst hq hd hE hL
        cases F<;>cases M
        all_goals
          go_wp2_with (first|(go_at_call 184;refine(first_any _ _).mono ?_;rintro e w1 ⟨rfl,rfl⟩;rw[HF.out])|(go_at_call 185;refine(more_any _ _).mono ?_;rintro e w1 ⟨rfl,rfl⟩;rw[HM.out]))
        · go_ret
          exact⟨ret_bool (by rw[HK.out];rfl),below_iter w s _⟩
        · go_ret
          exact⟨ret_bool (by rw[HK.out];rfl),below_iter w s _⟩
        · go_ret
          exact⟨ret_bool (by rw[HK.out];rfl),below_iter w s _⟩
        · go_roundw
          case rel=>exact⟨_,rfl,.inr ⟨by omega,by rw[HK.out];simp⟩⟩
          case measure=>simp;omega
      · rw[hst,List.all_cons,hM]at hk
        have HK:=yH hk
        have hi:((pos:Int)==0)=false:=by
          have:¬(pos:Int)=0:=by omega
          simpa using this
        clear hF hM hst hk hd hE hL hpos HQ HF
        cases M
        all_goals
          go_wp2_with (first|(go_at_call 185;refine(more_any _ _).mono ?_;rintro e w1 ⟨rfl,rfl⟩;rw[HM.out]))
        · go_ret
          exact⟨ret_bool (by rw[HK.out];rfl),below_iter w s _⟩
        · go_roundw
          case rel=>exact⟨pos+d,rfl,.inr ⟨by omega,by rw[HK.out];simp⟩⟩
          case measure=>simp;omega
    · have hnx:∀ty,(Instr.next (.pointer (some ⟨w.heap.size,0,none⟩)) true ty).run Tryz.prog (w.iter s pos)=_:=fun ty=>run_next_end w s pos ty hp
      rcases hk with k0|⟨hpos,hk⟩
      · exact absurd (by rw[k0];exact h0) hp
      rw[rest_end s pos hp]at hk;obtain rfl:Q=true:=hk;clear HQ hE hL
      go_wp2
      go_ret;exact⟨rfl,below_iter w s pos⟩
theorem name_any (s:ByteArray) (w:World):
    Calls Tryz.prog 148 #[.string s] w fun e w'=>e= .returned (.bool (nameL (letters s)))∧Below w.heap.size w w':=by
  by_cases h0:0<s.size
  · by_cases h1:s.size≤12
    · exact name_in s _ w h0 h1 (name_few s h0 h1)
    · rw[name_long s (by omega)];exact name_many s w (by omega)
  · obtain rfl:s=⟨#[]⟩:=by
      apply ByteArray.ext;apply Array.eq_empty_of_size_eq_zero;have:s.size=s.data.size:=rfl;omega
    exact name_none w
end Go.Proofs.YtcpmjkefbjbhpaaGreatDoor
namespace Go.Proofs.YtcpmjkefbjbhpaaGreatDoor
open Go Go.RowKit GlyphMath LexMath
theorem valid_good {r:Nat} (h:GoodL r):Utf8.valid (r:Int)=true:=by
  obtain⟨h0,h1,h2⟩:=h;simp only[Utf8.valid,Bool.or_eq_true,Bool.and_eq_true,decide_eq_true_eq];omega
theorem validRune_good {r:Nat} (h:GoodL r):Lib.validRune (r:Int)=true:=by
  obtain⟨h0,h1,h2⟩:=h;simp only[Lib.validRune,decide_eq_true_eq];omega
theorem indexByte_not:∀(l:List UInt8) (c:UInt8),(∀b∈l,b≠c)→Lib.indexByte l c= -1
  | [],_,_=>rfl
  |b::l,c,h=>by
    have h1:(b==c)=false:=(by simpa using h b (by simp));have ih:=indexByte_not l c fun x hx=>h x (List.mem_cons_of_mem _ hx);unfold Lib.indexByte;rw[h1,ih];rfl
set_option maxRecDepth 1000000 in
theorem index_none (s:ByteArray) (w:World) (hs:∀b∈s.data.toList,b.toNat<128):
    Calls Tryz.prog 190 #[.string s,.int .i32 65533] w fun e w'=>e= .returned (.int .i64 (-1))∧Below w.heap.size w w':=by
  have HS:=yH hs;clear hs;go_enter Tryz.func190,Tryz.ntmps190;go_wp2_with fail
  go_loopw [] (fun w'=> ∃(pos:Nat),w'=w.iter s pos) (fun w'=>s.size-w'.iterPos w.heap.size)
  case atStart=>exact⟨0,rfl⟩
  case round=>
    obtain⟨pos,rfl⟩:=hrel
    by_cases hp:pos<s.size
    · have hlow:(s[pos]'hp).toNat<128:=HS.out _ (by
        rw[ByteArray.getElem_eq_getElem_data]
        exact Array.getElem_mem_toList ..)
      have hnx:∀ty,(Instr.next (.pointer (some ⟨w.heap.size,0,none⟩)) true ty).run Tryz.prog (w.iter s pos)= .ok (.tuple #[.bool true,.int .i64 pos,.int .i32 (((s[pos]'hp).toNat:Nat):Int)]) (w.iter s (pos+1)):=fun ty=>(by rw[run_next_any w s pos ty hp,decode_ascii s pos hp hlow]);obtain⟨b,hb⟩:∃b,(s[pos]'hp).toNat=b:=⟨_,rfl⟩;rw[hb]at hnx hlow
      have hb1:((b:Int)==65533)=false:=by
        have:¬(b:Int)=65533:=by omega
        simpa using this
      clear hb hlow;go_wp2_with fail
      go_roundw
      case rel=>exact⟨pos+1,rfl⟩
      case measure=>simp;omega
    · have hnx:∀ty,(Instr.next (.pointer (some ⟨w.heap.size,0,none⟩)) true ty).run Tryz.prog (w.iter s pos)=_:=fun ty=>run_next_end w s pos ty hp
      go_wp2_with fail;go_ret;exact⟨rfl,below_iter w s pos⟩
end Go.Proofs.YtcpmjkefbjbhpaaGreatDoor
namespace Go.Proofs.YtcpmjkefbjbhpaaGreatDoor
open Go Go.RowKit GlyphMath
def rc (l:List Nat):List Value:=l.map fun (x:Nat)=>Value.int .i32 (x:Int)
theorem rc_add (l:List Nat) (x:Nat):rc (l++ [x])=rc l++ [.int .i32 (x:Int)]:=by simp[rc]
def RowL (w:World) (B:Nat) (v:Value) (l:List Nat):Prop:=w.ownsRow B 21 1 v l.length (rc l)
theorem grown_of_below {w w':World} (h:Below w.heap.size w w'):w.grownBy w' none:=⟨h.os,h.tape,h.output,h.size,fun k hk _=>h.block k hk⟩
theorem RowL.below {w w':World} {B:Nat} {v:Value} {l:List Nat} (h:RowL w B v l) (hb:Below w.heap.size w w'):RowL w' B v l:=by
  refine World.ownsRow.kept h (grown_of_below hb) ?_
  cases hv:v.ownBlock with
  |none=>exact .inl rfl
  |some k=>exact .inr (by simp)
theorem RowL.nil (w:World) (B:Nat):RowL w B (.slice none 0 0) []:=World.ownsRow_nil _ _ _ _
theorem RowL.is {w:World} {B:Nat} {v:Value} {l:List Nat} (h:RowL w B v l):(v= .slice none 0 0∧l= [])∨∃g c,v= .slice (some ⟨g,0,none⟩) l.length c:=by
  rcases h.2 with ⟨hv,hn⟩|⟨g,cap,cur,hv, -⟩
  · exact .inl ⟨hv,List.eq_nil_of_length_eq_zero hn⟩
  · exact .inr ⟨g,cap,hv⟩
theorem info32:(Tryz.prog.info? 21).map (fun i=>(i.zero,i.size,i.bytes))=some (some (.int .i32 0),1,4):=by kernel_rfl
theorem RowL.cell {w:World} {B g c:Nat} {l:List Nat} (h:RowL w B (.slice (some ⟨g,0,none⟩) l.length c) l) (j:Nat) (hj:j<l.length):w.cell? ⟨g,j,none⟩=some (.int .i32 (l[j]:Nat)):=by
  rw[World.ownsRow.cellAt h j (by omega)];simp[rc,hj]
def Tabs (w:World):Prop:=Lib.Utf8Tabs 3 4 w
theorem Tabs.below {w w':World} (h:Tabs w) (hb:Below w.heap.size w w'):Tabs w':=
  ⟨fun c hc=>(hb.cell (World.block_lt_of_cell? w _ (h.1 c hc))).trans (h.1 c hc),fun i hi=>⟨(hb.cell (World.block_lt_of_cell? w _ (h.2 i hi).1)).trans (h.2 i hi).1,(hb.cell (World.block_lt_of_cell? w _ (h.2 i hi).2)).trans (h.2 i hi).2⟩⟩
theorem dec_any (t:ByteArray) (w:World) (ht:0<t.size) (hT:Tabs w):
    Calls Tryz.prog 84 #[.string t] w fun e w'=>e= .returned (.tuple #[.int .i32 ((Utf8.decode t 0).1:Int),.int .i64 ((Utf8.decode t 0).2:Int)])∧Below w.heap.size w w':=by
  have h:=Tryz.utf8_DecodeRuneInString t w hT;have e:Lib.decodeGo t=Utf8.decode t 0:=(by unfold Lib.decodeGo;rw[if_neg (by omega)])
  rwa [e]at h
theorem dec_at (s:ByteArray) (i:Nat) (w:World) (hi:i<s.size) (hT:Tabs w):
    Calls Tryz.prog 84 #[.string (s.extract i s.size)] w fun e w'=>e= .returned (.tuple #[.int .i32 ((Utf8.decode s i).1:Int),.int .i64 ((Utf8.decode s i).2:Int)])∧Below w.heap.size w w':=by
  have h:=dec_any (s.extract i s.size) w (by rw[Lib.tail_size];omega) hT
  rwa [Lib.tail_decode,Nat.add_zero]at h
theorem first_is:Rows.laid_unicode_utf8_first=Lib.firstData:=by kernel_rfl
theorem accept_is:(Rows.laid_unicode_utf8_acceptRanges:DataW Unit)=Lib.acceptData:=by kernel_rfl
theorem lays260:Lays.n260 Tryz.prog Tryz.lays197_ren:= { Tryz.lays197 with }
theorem extra:U8Extra Tryz.prog Tryz.lays197_ren:=⟨by kernel_rfl,by kernel_rfl,by kernel_rfl,by kernel_rfl,by kernel_rfl,by kernel_rfl,by kernel_rfl⟩
theorem rfirst_any (r:Int) (w:World):
    Calls Tryz.prog 96 #[.int .i32 r] w fun e w'=>e= .returned (.bool (firstR r))∧w=w':=by
  go_enter Tryz.func96,Tryz.ntmps96;go_wp2_with fail
  all_goals
    go_ret;refine⟨ret_bool (bool_iff ?_),rfl⟩;unfold firstR
    first|(simp;done)|(simp;omega)
theorem rmore_any (r:Int) (w:World):
    Calls Tryz.prog 95 #[.int .i32 r] w fun e w'=>e= .returned (.bool (moreR r))∧w=w':=by
  unfold moreR
  generalize hF:firstR r=F
  have HF:=yH hF;clear hF
  cases F
  all_goals
    go_enter Tryz.func95,Tryz.ntmps95
    go_wp2_with (go_at_call 96;refine(rfirst_any r _).mono ?_;rintro e w1 ⟨rfl,rfl⟩;(try rw[HF.out]))
  all_goals
    go_ret;refine⟨ret_bool (bool_iff ?_),rfl⟩
    first|(simp;done)|(simp;omega)
theorem rest_tail (s:ByteArray) (n:Nat):∀k i,s.size-(n+i)≤k→rest (s.extract n s.size) i=rest s (n+i)
  |0,i,h=>by rw[rest_end _ _ (by rw[Lib.tail_size];omega),rest_end _ _ (by omega)]
  |k+1,i,h=>by
    by_cases hp:n+i<s.size
    · have hw:=width_pos s (n+i) hp
      rw[rest_step _ _ (by rw[Lib.tail_size];omega),rest_step _ _ hp,Lib.tail_decode,rest_tail s n k _ (by omega),Nat.add_assoc]
    · rw[rest_end _ _ (by rw[Lib.tail_size];omega),rest_end _ _ (by omega)]
theorem letters_tail (t:ByteArray) (h:0<t.size):letters t=(Utf8.decode t 0).1::letters (t.extract (Utf8.decode t 0).2 t.size):=by
  have e:=rest_step t 0 h;rw[rest_zero,Nat.zero_add]at e;rw[e,←rest_zero (t.extract _ _),rest_tail t _ t.size 0 (by omega),Nat.add_zero]
theorem rvalid_any (s:ByteArray) (w:World) (hs:s.size≤9223372036854775807) (hT:Tabs w):
    Calls Tryz.prog 40 #[.string s] w fun e w'=>e= .returned (.tuple #[.int .i64 (place s:Int),.bool (isText s)])∧Below w.heap.size w w':=by
  have HT:=yH hT;have HS:=yH hs;clear hT hs;go_enter Tryz.func40,Tryz.ntmps40;go_wp2_with fail
  go_loopw [4] (fun i wr=> ∃pos:Nat,i= .int .i64 (pos:Int)∧pos≤s.size∧badFrom s pos=firstBad s∧Below w.heap.size w wr) (fun i _=>s.size-(intOf i).toNat)
  case atStart=>exact⟨0,rfl,Nat.zero_le _,rfl,Below.refl _ _⟩
  case round=>
    obtain⟨pos,rfl,hle,hk,hb⟩:=hrel;have HB:=yH hb;have HTr:=yH (HT.out.below hb);clear hb
    by_cases hp:pos<s.size
    · obtain⟨r,d,hd⟩:∃r d,Utf8.decode s pos=(r,d):=⟨_,_,rfl⟩
      have hc:=dec_at s pos wr hp HTr.out;have hwd:=width_pos s pos hp;have hwl:=width_le s pos hp;rw[badFrom_step s pos hp,hd]at hk;unfold bad at hk;rw[hd]at hwd hwl hk hc;simp only at hk hwd hwl hc;have HC:=yH hc;have HW:=yH (And.intro hwd hwl);have hpi:(pos:Int)<s.size:=(by omega);have had:(pos:Int)+d≤9223372036854775807:=(by have:=HS.out;omega);have E1:=yH (fun (h:badFrom s (pos+d)=firstBad s)=>h);clear hd hc hwd hwl hp
      by_cases b0:r=0
      · subst b0
        have E:=yH (show place s=pos∧isText s=false by constructor<;>(first|unfold place|unfold isText)<;>rw[←hk]<;>rfl);clear hk E1
        go_wp2_with (go_at_call 84;refine HC.out.mono ?_;rintro e w1 ⟨rfl,hb1⟩;have H1:=yH hb1;clear hb1)
        go_ret2
        exact⟨by rw[E.out.1,E.out.2];rfl,HB.out.trans (H1.out.mono HB.out.size)⟩
      · have b0':((r:Int)==0)=false:=by simpa using b0
        have c0:(r==0)=false:=by simpa using b0
        by_cases b1:r=65533
        · subst b1
          by_cases b2:d=1
          · subst b2
            have E:=yH (show place s=pos∧isText s=false by constructor<;>(first|unfold place|unfold isText)<;>rw[←hk]<;>rfl);clear hk E1 b0 c0
            go_wp2_with (go_at_call 84;refine HC.out.mono ?_;rintro e w1 ⟨rfl,hb1⟩;have H1:=yH hb1;clear hb1)
            go_ret2
            exact⟨by rw[E.out.1,E.out.2];rfl,HB.out.trans (H1.out.mono HB.out.size)⟩
          · have b2':((d:Int)==1)=false:=by
              have:¬(d:Int)=1:=by omega
              simpa using this
            have c2:(d==1)=false:=(by simpa using b2);have HK:=yH (show badFrom s (pos+d)=firstBad s by rw[←hk,c2];rfl);clear hk E1 b0 c0 b2 c2
            go_wp2_with (go_at_call 84;refine HC.out.mono ?_;rintro e w1 ⟨rfl,hb1⟩;have H1:=yH hb1;clear hb1)
            go_roundw
            case rel=>exact⟨pos+d,by go_num,HW.out.2,HK.out,HB.out.trans (H1.out.mono HB.out.size)⟩
            case measure=>have:=HW.out;simp[intOf];omega
        · have b1':((r:Int)==65533)=false:=by
            have:¬(r:Int)=65533:=by omega
            simpa using this
          have c1:(r==65533)=false:=(by simpa using b1);have HK:=yH (show badFrom s (pos+d)=firstBad s by rw[←hk,c0,c1];rfl);clear hk E1 b0 c0 b1 c1
          go_wp2_with (go_at_call 84;refine HC.out.mono ?_;rintro e w1 ⟨rfl,hb1⟩;have H1:=yH hb1;clear hb1)
          go_roundw
          case rel=>exact⟨pos+d,by go_num,HW.out.2,HK.out,HB.out.trans (H1.out.mono HB.out.size)⟩
          case measure=>have:=HW.out;simp[intOf];omega
    · obtain rfl:pos=s.size:=by omega
      rw[badFrom_end s _ hp]at hk;have E:=yH (show place s=s.size∧isText s=true by constructor<;>(first|unfold place|unfold isText)<;>rw[←hk]<;>rfl);clear hk hp hle;go_wp2_with fail
      go_ret2
      exact⟨by rw[E.out.1,E.out.2];rfl,HB.out⟩
end Go.Proofs.YtcpmjkefbjbhpaaGreatDoor
