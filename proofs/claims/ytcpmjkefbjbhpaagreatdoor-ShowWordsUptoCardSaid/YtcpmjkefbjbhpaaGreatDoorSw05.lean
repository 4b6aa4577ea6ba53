/-
  Proved: contracts of functions, plain facts. Conditions: as each says.
-/
import Derived.Test.YtcpmjkefbjbhpaaGreatDoorSw00
import Derived.Test.YtcpmjkefbjbhpaaGreatDoorSw01
import Derived.Lib.OthersKept
import Derived.LoopTactic
namespace Go.Proofs.YtcpmjkefbjbhpaaGreatDoor.LexMath
open Go Go.Lib GlyphMath
theorem lit_lit (ps:List Pt) (a b:List UInt8) (q:Bool):lit (lit ps a q) b q=lit ps (a++b) q:=by
  rcases List.eq_nil_or_concat ps with rfl|⟨r,p,rfl⟩
  · simp[lit]
  · rw[List.concat_eq_append,lit_last,lit_last]
    split
    · rename_i h
      rw[lit_last,if_pos h];simp
    · rw[lit_last,if_pos ⟨rfl,rfl⟩]
theorem not34 {ys:List Nat} (h:takes [34] ys=none):next ys≠34:=fun e=>by
  rw[takes_one,if_pos ⟨e,fun e'=>by rw[e']at e;cases e⟩]at h
  cases h
theorem is34 {ys:List Nat} (h:next ys≠34):takes [34] ys=none:=by
  rw[takes_one,if_neg fun e=>h e.1]
theorem partsL_fuel {br:List Nat→Res Pt} (hb:BraceOk br) {deep:Bool} :∀(f g:Nat) (xs:List Nat) (ps:List Pt),xs.length<f→xs.length<g→partsL br deep f xs ps=partsL br deep g xs ps
  |0,_,_,_,h,_=>by omega
  |_+1,0,_,_,_,h=>by omega
  |f+1,g+1,xs,ps,hf,hg=>by
    rw[partsL,partsL]
    by_cases hc:next xs=0∨ends (next xs) deep=true
    · rw[if_pos hc,if_pos hc]
    · rw[if_neg hc,if_neg hc]
      cases hp:partM br deep xs ps with
      |error e=>rfl
      |ok a=>
        obtain⟨ps',xs'⟩:=a;simp only;have h1:=(part_less hb hp (fun h=>hc (.inl h)) (by cases he:ends (next xs) deep;rfl;exact absurd (.inr he) hc)).1.2;exact partsL_fuel hb f g xs' ps' (by omega) (by omega)
theorem doubleL_fuel {br:List Nat→Res Pt} (hb:BraceOk br):∀(f g:Nat) (xs:List Nat) (ps:List Pt),xs.length<f→xs.length<g→doubleL br f xs ps=doubleL br g xs ps
  |0,_,_,_,h,_=>by omega
  |_+1,0,_,_,_,h=>by omega
  |f+1,g+1,xs,ps,hf,hg=>by
    rw[doubleL,doubleL]
    cases ht:takes [34] xs with
    |some r=>rfl
    |none=>
      simp only
      cases hp:withinM br xs ps with
      |error e=>rfl
      |ok a=>
        obtain⟨ps',xs'⟩:=a;simp only;have h1:=(within_less hb hp (not34 ht)).1.2;exact doubleL_fuel hb f g xs' ps' (by omega) (by omega)
theorem enc_one (c:Nat):enc [c]=eb c:=by simp[enc]
theorem parts_one {br:List Nat→Res Pt} (hb:BraceOk br) {deep:Bool} {f c:Nat} {r:List Nat} {ps:List Pt} (hg:∀x∈c::r,GoodL x) (h1:begins c=false) (h2:ends c deep=false) (hf:r.length+1<f+1):
    partsL br deep (f+1) (c::r) ps=partsL br deep f r (lit ps (eb c) false):=by
  have h0:c≠0:=by have:=(hg c (by simp)).1;omega
  have hn:c≠92∧c≠39∧c≠34∧c≠36:=by
    simp only[begins,acts,Bool.or_eq_false_iff,beq_eq_false_iff_ne,ne_eq]at h1;omega
  have e1:∀(f:Nat) (c:Nat) (r:List Nat) (ps:List Pt),c≠0→begins c=false→ends c deep=false→c≠92∧c≠39∧c≠34∧c≠36→
      partsL br deep (f+1) (c::r) ps=partsL br deep f (left (fun r=>begins r||ends r deep) (c::r)) (lit ps (enc (got (fun r=>begins r||ends r deep) (c::r))) false):=by
    intro f c r ps h0 h1 h2 hn
    have hp:partM br deep (c::r) ps= .ok (lit ps (enc (got (fun r=>begins r||ends r deep) (c::r))) false,left (fun r=>begins r||ends r deep) (c::r)):=by
      unfold partM;rw[if_neg (show ¬next (c::r)=92 from hn.1),if_neg (show ¬next (c::r)=39 from hn.2.1),if_neg (show ¬next (c::r)=34 from hn.2.2.1),if_neg (show ¬next (c::r)=36 from hn.2.2.2)]
    rw[partsL,if_neg (by simp[next,h0,h2]),hp]
  rw[e1 f c r ps h0 h1 h2 hn];have g1:got (fun r=>begins r||ends r deep) (c::r)=c::got (fun r=>begins r||ends r deep) r:=(by rw[got,h1,h2];rfl);have g2:left (fun r=>begins r||ends r deep) (c::r)=left (fun r=>begins r||ends r deep) r:=(by rw[left,h1,h2];rfl);rw[g1,g2]
  cases r with
  |nil=>simp[got,left,enc]
  |cons c2 r2=>
    cases hS2:(fun r=>begins r||ends r deep) c2 with
    |true=>
      rw[show got (fun r=>begins r||ends r deep) (c2::r2)= []from by rw[got];exact if_pos hS2,show left (fun r=>begins r||ends r deep) (c2::r2)=c2::r2 from by rw[left];exact if_pos hS2,enc_one]
    |false=>
      obtain⟨g,rfl⟩:∃g,f=g+1:=⟨f-1,by omega⟩;have k1:begins c2=false∧ends c2 deep=false:=(by simpa using hS2)
      have hn2:c2≠92∧c2≠39∧c2≠34∧c2≠36:=by
        have:=k1.1;simp only[begins,acts,Bool.or_eq_false_iff,beq_eq_false_iff_ne,ne_eq]at this;omega
      rw[e1 g c2 r2 (lit ps (eb c) false) (by have:=(hg c2 (by simp)).1;omega) k1.1 k1.2 hn2,lit_lit];have hl:=left_lt (fun r=>begins r||ends r deep) c2 r2 hS2;rw[show enc (c::got (fun r=>begins r||ends r deep) (c2::r2))=eb c++enc (got (fun r=>begins r||ends r deep) (c2::r2))from rfl];simp only[List.length_cons]at hf hl;exact partsL_fuel hb _ _ _ _ (by omega) (by omega)
theorem double_one {br:List Nat→Res Pt} (hb:BraceOk br) {f c:Nat} {r:List Nat} {ps:List Pt} (hg:∀x∈c::r,GoodL x) (h1:acts c=false) (hf:r.length+1<f+1):
    doubleL br (f+1) (c::r) ps=doubleL br f r (lit ps (eb c) true):=by
  have e1:∀(f:Nat) (c:Nat) (r:List Nat) (ps:List Pt),c≠0→acts c=false→doubleL br (f+1) (c::r) ps=doubleL br f (left acts (c::r)) (lit ps (enc (got acts (c::r))) true):=by
    intro f c r ps h0 h1
    have hn:c≠34∧c≠36∧c≠92:=by
      simp only[acts,Bool.or_eq_false_iff,beq_eq_false_iff_ne,ne_eq]at h1;omega
    have hp:withinM br (c::r) ps= .ok (lit ps (enc (got acts (c::r))) true,left acts (c::r)):=by
      unfold withinM;rw[if_neg (show ¬next (c::r)=0 from h0),if_neg (show ¬next (c::r)=92 from hn.2.2),if_neg (show ¬next (c::r)=36 from hn.2.1)]
    rw[doubleL,is34 (show next (c::r)≠34 from hn.1),hp]
  rw[e1 f c r ps (by have:=(hg c (by simp)).1;omega) h1];have g1:got acts (c::r)=c::got acts r:=(by rw[got,h1];rfl);have g2:left acts (c::r)=left acts r:=(by rw[left,h1];rfl);rw[g1,g2]
  cases r with
  |nil=>simp[got,left,enc]
  |cons c2 r2=>
    cases hS2:acts c2 with
    |true=>
      rw[show got acts (c2::r2)= [] by rw[got,hS2];rfl,show left acts (c2::r2)=c2::r2 by rw[left,hS2];rfl,enc_one]
    |false=>
      obtain⟨g,rfl⟩:∃g,f=g+1:=⟨f-1,by omega⟩;rw[e1 g c2 r2 (lit ps (eb c) true) (by have:=(hg c2 (by simp)).1;omega) hS2,lit_lit];have hl:=left_lt acts c2 r2 hS2;rw[show enc (c::got acts (c2::r2))=eb c++enc (got acts (c2::r2))from rfl];simp only[List.length_cons]at hf hl;exact doubleL_fuel hb _ _ _ _ (by omega) (by omega)
def fb (c:Nat):Nat:=if c<128 then c else if c<2048 then 192+c/64 else if c<65536 then 224+c/4096 else 240+c/262144
def tb (c:Nat):List UInt8:=
  if c<128 then []else if c<2048 then [UInt8.ofNat (128+c % 64)]
  else if c<65536 then [UInt8.ofNat (128+c/64 % 64),UInt8.ofNat (128+c % 64)]
  else [UInt8.ofNat (128+c/4096 % 64),UInt8.ofNat (128+c/64 % 64),UInt8.ofNat (128+c % 64)]
theorem eb_split (c:Nat):eb c=UInt8.ofNat (fb c)::tb c:=by
  unfold eb fb tb
  repeat' split
  all_goals first|rfl|omega
theorem tb_mid (c:Nat):∀b∈tb c,128≤b.toNat∧b.toNat<192:=by
  have key:∀k,128≤(UInt8.ofNat (128+k % 64)).toNat∧(UInt8.ofNat (128+k % 64)).toNat<192:=fun k=>(by rw[byte_of _ (by omega)];omega);unfold tb;intro b hb
  repeat' split at hb
  all_goals simp only[List.mem_cons,List.not_mem_nil,or_false]at hb
  · rw[hb];exact key _
  · rcases hb with rfl|rfl<;>exact key _
  · rcases hb with rfl|rfl|rfl<;>exact key _
theorem fb_facts {c:Nat} (h:GoodL c):0<fb c∧fb c<256∧(c<128→fb c=c∧tb c= [])∧(128≤c→192≤fb c):=by
  obtain⟨h0,h1, -⟩:=h;refine⟨?_,?_,fun hc=> ?_,fun hc=> ?_⟩
  · unfold fb;repeat' split
    all_goals omega
  · unfold fb;repeat' split
    all_goals omega
  · unfold fb tb;rw[if_pos hc,if_pos hc];exact⟨rfl,rfl⟩
  · unfold fb;repeat' split
    all_goals omega
def fbn:List Nat→Nat
  | []=>0
  |c::_=>fb c
theorem fbn_lt {xs:List Nat} (h:∀x∈xs,GoodL x):fbn xs<256:=by
  cases xs with
  |nil=>simp[fbn]
  |cons c r=>exact(fb_facts (h c (by simp))).2.1
theorem fbn_iff {xs:List Nat} (h:∀x∈xs,GoodL x) {k:Nat} (hk:k<128):fbn xs=k↔next xs=k:=by
  cases xs with
  |nil=>rfl
  |cons c r=>
    obtain⟨h1,h2,h3,h4⟩:=fb_facts (h c (by simp));show fb c=k↔c=k
    by_cases hc:c<128
    · rw[(h3 hc).1]
    · have:=h4 (by omega)
      omega
theorem fbn_low {xs:List Nat} (h:∀x∈xs,GoodL x):fbn xs=next xs∨(192≤fbn xs∧128≤next xs):=by
  cases xs with
  |nil=>exact .inl rfl
  |cons c r=>
    obtain⟨h1,h2,h3,h4⟩:=fb_facts (h c (by simp))
    by_cases hc:c<128
    · exact .inl (h3 hc).1
    · exact .inr ⟨h4 (by omega),by show 128≤c;omega⟩
theorem firstR_high {n:Nat} (h:128≤n):firstR (n:Int)=false:=by
  unfold firstR;simp;omega
theorem moreR_high {n:Nat} (h:128≤n):moreR (n:Int)=false:=by
  unfold moreR;rw[firstR_high h];simp;omega
theorem firstR_fbn {xs:List Nat} (h:∀x∈xs,GoodL x):firstR (fbn xs:Int)=firstR (next xs:Int):=by
  rcases fbn_low h with e|⟨e1,e2⟩
  · rw[e]
  · rw[firstR_high (by omega),firstR_high e2]
theorem moreR_fbn {xs:List Nat} (h:∀x∈xs,GoodL x):moreR (fbn xs:Int)=moreR (next xs:Int):=by
  rcases fbn_low h with e|⟨e1,e2⟩
  · rw[e]
  · rw[moreR_high (by omega),moreR_high e2]
theorem other_high {n:Nat} (h:128≤n):other n=false:=by
  unfold other;simp;omega
theorem other_fbn {xs:List Nat} (h:∀x∈xs,GoodL x):other (fbn xs)=other (next xs):=by
  rcases fbn_low h with e|⟨e1,e2⟩
  · rw[e]
  · rw[other_high (by omega),other_high e2]
theorem reckons_high {n:Nat} (h:128≤n):reckons n=false:=by
  unfold reckons;rw[moreR_high h];simp;omega
theorem reckons_fbn {xs:List Nat} (h:∀x∈xs,GoodL x):reckons (fbn xs)=reckons (next xs):=by
  rcases fbn_low h with e|⟨e1,e2⟩
  · rw[e]
  · rw[reckons_high (by omega),reckons_high e2]
structure Pos (s:ByteArray) (i:Nat) (xs:List Nat):Prop where
  rest:s.data.toList.drop i=enc xs
  le:i≤s.size
  good:∀x∈xs,GoodL x
theorem Pos.len {s:ByteArray} {i:Nat} {xs:List Nat} (h:Pos s i xs):i+(enc xs).length=s.size:=by
  have e:=congrArg List.length h.rest;rw[List.length_drop,Array.length_toList]at e;have:=h.le;rw[show s.data.size=s.size from rfl]at e;omega
theorem Pos.pass {s:ByteArray} {i:Nat} {p r:List Nat} (h:Pos s i (p++r)):Pos s (i+(enc p).length) r:=by
  have hl:=h.len;rw[enc_append,List.length_append]at hl;refine⟨?_,by omega,fun x hx=>h.good x (List.mem_append_right _ hx)⟩;rw[←List.drop_drop,h.rest,enc_append,List.drop_left]
theorem Pos.step {s:ByteArray} {i c:Nat} {r:List Nat} (h:Pos s i (c::r)):Pos s (i+(eb c).length) r:=by
  have:=Pos.pass (p:= [c]) h
  rwa [enc_one]at this
theorem Pos.byte {s:ByteArray} {i:Nat} {xs:List Nat} (h:Pos s i xs) (k:Nat):s.data.toList[i+k]? =(enc xs)[k]? :=by
  rw[←h.rest,List.getElem?_drop]
theorem byte_get {s:ByteArray} {j:Nat} {b:UInt8} (h:s.data.toList[j]? =some b):∃hj:j<s.size,s[j]=b:=by
  obtain⟨h1,h2⟩:=List.getElem?_eq_some_iff.1 h;rw[Array.length_toList]at h1;refine⟨h1,?_⟩;rw[ByteArray.getElem_eq_getElem_data,←h2,Array.getElem_toList]
def byteAt (s:ByteArray) (j:Nat):Nat:=(s.data.toList[j]?).elim 0 (·.toNat)
theorem byteAt_lt (s:ByteArray) (j:Nat):byteAt s j<256:=by
  unfold byteAt
  cases s.data.toList[j]? with
  |none=>simp
  |some b=>exact b.toNat_lt
theorem byteAt_in {s:ByteArray} {j:Nat} (h:j<s.size):byteAt s j=(s[j]).toNat:=by
  unfold byteAt;have h':j<s.data.toList.length:=(by rw[Array.length_toList];exact h);rw[List.getElem?_eq_getElem h',Option.elim_some,Array.getElem_toList,ByteArray.getElem_eq_getElem_data]
theorem byteAt_out {s:ByteArray} {j:Nat} (h:s.size≤j):byteAt s j=0:=by
  unfold byteAt;rw[List.getElem?_eq_none_iff.2 (by rw[Array.length_toList];exact h)];rfl
theorem Pos.fbn {s:ByteArray} {i:Nat} {xs:List Nat} (h:Pos s i xs):byteAt s i=fbn xs:=by
  unfold byteAt;have:=h.byte 0;rw[Nat.add_zero]at this;rw[this]
  cases xs with
  |nil=>rfl
  |cons c r=>
    rw[enc,eb_split];simp only[List.cons_append,List.getElem?_cons_zero,Option.elim_some,LexMath.fbn];exact byte_of _ (fb_facts (h.good c (by simp))).2.1
theorem Pos.fbn1 {s:ByteArray} {i c:Nat} {r:List Nat} (h:Pos s i (c::r)) (hc:c<128):Pos s (i+1) r:=by
  have:=h.step;rw[eb_split,((fb_facts (h.good c (by simp))).2.2.1 hc).2]at this;exact this
theorem extract_list (s:ByteArray) (i j:Nat):s.extract i j=⟨((s.data.toList.drop i).take (j-i)).toArray⟩:=by
  apply ByteArray.ext;rw[ByteArray.data_extract];apply Array.ext';simp[List.extract]
theorem Pos.extract {s:ByteArray} {i:Nat} {p r:List Nat} (h:Pos s i (p++r)):s.extract i (i+(enc p).length)=⟨(enc p).toArray⟩:=by
  rw[extract_list,h.rest,enc_append,Nat.add_sub_cancel_left,List.take_left]
theorem enc_not {k:Nat} (hk:k<128):∀ {l:List Nat},(∀x∈l,GoodL x)→(∀x∈l,x≠k)→∀b∈enc l,b.toNat≠k
  | [],_,_,b,hb=>by cases hb
  |c::r,hg,hn,b,hb=>by
    rw[enc,eb_split,List.cons_append]at hb;obtain⟨h1,h2,h3,h4⟩:=fb_facts (hg c (by simp))
    rcases List.mem_cons.1 hb with rfl|hb
    · rw[byte_of _ h2]
      by_cases hc:c<128
      · rw[(h3 hc).1];exact hn c (by simp)
      · have:=h4 (by omega);omega
    · rcases List.mem_append.1 hb with hb|hb
      · have:=tb_mid c b hb;omega
      · exact enc_not hk (fun x hx=>hg x (by simp[hx])) (fun x hx=>hn x (by simp[hx])) b hb
theorem got_not {k:Nat} :∀(l:List Nat),∀x∈got (fun r=>r==k) l,x≠k
  | [],x,hx=>by cases hx
  |c::r,x,hx=>by
    unfold got at hx
    cases hc:(c==k)with
    |true=>rw[hc]at hx;cases hx
    |false=>
      rw[hc]at hx
      rcases List.mem_cons.1 hx with rfl|hx
      · simpa using hc
      · exact got_not r x hx
theorem Pos.run {s:ByteArray} {i k:Nat} {xs:List Nat} (h:Pos s i xs) (hk:k<128) (j:Nat) (hj:j<(enc (got (fun r=>r==k) xs)).length):byteAt s (i+j)≠k∧byteAt s (i+j)≠0∧i+j<s.size:=by
  have hx:s.data.toList[i+j]? =(enc (got (fun r=>r==k) xs))[j]? :=by
    rw[h.byte j]
    conv=>lhs;rw[←got_left (fun r=>r==k) xs,enc_append]
    exact List.getElem?_append_left hj
  have hg:∀x∈got (fun r=>r==k) xs,GoodL x:=fun x hx=>h.good x (by rw[←got_left (fun r=>r==k) xs];exact List.mem_append_left _ hx);rw[List.getElem?_eq_getElem hj]at hx;have hm:=List.getElem_mem hj;obtain⟨h1, -⟩:=byte_get hx;unfold byteAt;rw[hx];exact⟨enc_not hk hg (got_not xs) _ hm,enc_not (k:=0) (by omega) hg (fun x hx=>by have:=(hg x hx).1;omega) _ hm,h1⟩
theorem Pos.run_end {s:ByteArray} {i:Nat} {xs:List Nat} (S:Nat→Bool) (h:Pos s i xs):Pos s (i+(enc (got S xs)).length) (left S xs):=by
  have:Pos s i (got S xs++left S xs):=(by rw[got_left];exact h);exact this.pass
end Go.Proofs.YtcpmjkefbjbhpaaGreatDoor.LexMath
namespace Go.Proofs.YtcpmjkefbjbhpaaGreatDoor
open Go Go.RowKit GlyphMath LexMath TreeMath
theorem indexByte_in (l:List UInt8) (c:UInt8):decide (0≤Lib.indexByte l c)=l.contains c:=by
  induction l with
  |nil=>rfl
  |cons b r ih=>
    rw[List.contains_cons,←ih]
    by_cases h:b=c
    · subst h
      simp[Lib.indexByte]
    · have h1:(b==c)=false:=by simpa using h
      have h2:(c==b)=false:=by simpa using fun e=>h e.symm
      have hm:Lib.indexByte r c= -1∨0≤Lib.indexByte r c:=by
        clear ih
        induction r with
        |nil=>exact .inl rfl
        |cons x r ih=>
          unfold Lib.indexByte
          by_cases hx:(x==c)=true
          · rw[if_pos hx];exact .inr (Int.le_refl 0)
          · rw[if_neg hx]
            rcases ih with h|h
            · rw[h];exact .inl rfl
            · have:(Lib.indexByte r c== -1)=false:=by
                have:Lib.indexByte r c≠ -1:=by omega
                simpa using this
              rw[this];exact .inr (by simp;omega)
      rw[Lib.indexByte,h1,h2,Bool.false_or]
      rcases hm with h|h
      · rw[h];rfl
      · have:(Lib.indexByte r c== -1)=false:=by
          have:Lib.indexByte r c≠ -1:=by omega
          simpa using this
        rw[this];simp only[Bool.false_eq_true,↓reduceIte];rw[decide_eq_true h,decide_eq_true (by omega)]
def inSet (cs:List UInt8) (r:Nat):Bool:=decide (r<128)&&cs.contains r.toUInt8
theorem rune_in (s:ByteArray) (hs:∀b∈s.data.toList,b.toNat<128) (hz:s.size≤100) (r:Nat) (hr:r<128∨GoodL r) (w:World):
    Calls Tryz.prog 190 #[.string s,.int .i32 (r:Int)] w fun e w'=> ∃k:Int,e= .returned (.int .i64 k)∧decide (0≤k)=inSet s.data.toList r∧Below w.heap.size w w':=by
  by_cases h:r<128
  · refine(Tryz.strings_IndexRune_ascii s (r:Int) w (by omega) (by omega)).mono ?_
    rintro e w' ⟨rfl,rfl⟩;refine⟨_,rfl,?_,Below.refl _ _⟩;rw[indexByte_in,show((r:Int).toNat)=r from rfl];unfold inSet;rw[decide_eq_true h,Bool.true_and]
  · have hf:inSet s.data.toList r=false:=by unfold inSet;rw[decide_eq_false h,Bool.false_and]
    have hi:Calls Tryz.prog 190 #[.string s,.int .i32 (r:Int)] w fun e w'=>e= .returned (.int .i64 (-1))∧Below w.heap.size w w':=by
      by_cases he:r=65533
      · subst he;exact index_none s w hs
      · exact index_high s r w (by omega) (hr.resolve_left h) he hs hz
    refine hi.mono ?_;rintro e w' ⟨rfl,hb⟩;exact⟨_,rfl,by rw[hf];rfl,hb⟩
theorem crune_in (s:ByteArray) (hs:∀b∈s.data.toList,b.toNat<128) (hz:s.size≤100) (r:Nat) (hr:r<128∨GoodL r) (w:World):
    Calls Tryz.prog 162 #[.string s,.int .i32 (r:Int)] w fun e w'=>e= .returned (.bool (inSet s.data.toList r))∧Below w.heap.size w w':=by
  have HI:=yH (rune_in s hs hz r hr w)
  generalize inSet s.data.toList r=B at HI ⊢
  clear hs hz hr;go_enter Tryz.func162,Tryz.ntmps162
  go_wp2_with (go_at_call 190;refine HI.out.mono ?_;rintro e w1 ⟨k,rfl,hk,hb⟩;have HB:=yH (And.intro hk hb);clear hk hb)
  go_ret;exact⟨ret_bool HB.out.1,HB.out.2⟩
set_option maxHeartbeats 2000000 in
set_option maxRecDepth 1000000 in
theorem any_short (s cs:ByteArray) (hs:∀b∈cs.data.toList,b.toNat<128) (h2:2≤cs.size) (hz:cs.size≤100) (h8:s.size≤8) (w:World):
    Calls Tryz.prog 216 #[.string s,.string cs] w fun e w'=> ∃k:Int,e= .returned (.int .i64 k)∧decide (0≤k)=anyIn s.data.toList cs.data.toList∧Below w.heap.size w w':=by
  have HC:=yH (And.intro hs hz);obtain⟨R,hR⟩:∃R,anyIn s.data.toList cs.data.toList=R:=⟨_,rfl⟩;have HR:=yH hR;rw[hR]
  have hemp:cs.toList.isEmpty=false:=by
    rw[Lib.toList_data]
    cases h:cs.data.toList with
    |nil=>have:=Lib.size_eq cs;rw[h,List.length_nil]at this;omega
    |cons _ _=>rfl
  have hn1:((cs.size:Int)==1)=false:=beq_eq_false_iff_ne.2 (by omega);have h8z:decide ((8:Int)<(s.size:Int))=false:=decide_eq_false (by omega);clear hs h2 hz hR;go_enter Tryz.func216,Tryz.ntmps216
  go_wp2_with (go_at_call 240;refine(Tryz.strings_shouldUseASCIISet _ _).mono ?_;rintro e w' ⟨rfl,hw⟩;rw[hw,h8z])
  go_loopw [9,10] (fun _ _ wr=> ∃(pos:Nat),wr.heap[w.heap.size]? =some (.stringIter s pos)∧Below w.heap.size w wr∧anyIn (s.data.toList.drop pos) cs.data.toList=R∧pos≤s.size) (fun _ _ wr=>s.size-wr.iterPos w.heap.size)
  case atStart=>exact⟨0,(show(w.iter s 0).heap[w.heap.size]? =some (.stringIter s 0)from by unfold World.iter;exact heap_alloc_new w _),below_iter w s 0,HR.out,Nat.zero_le _⟩
  case round=>
    obtain⟨pos,hit,hb,hk,hle⟩:=hrel;have hlt:w.heap.size<wr.heap.size:=(gS.1 hit).1
    by_cases hp:pos<s.size
    · obtain⟨r,d,hd,hr,hstep,hw1,hw2⟩:∃r d,Utf8.decode s pos=(r,d)∧(r<128∨GoodL r)∧anyIn (s.data.toList.drop pos) cs.data.toList=(inSet cs.data.toList r||anyIn (s.data.toList.drop (pos+d)) cs.data.toList)∧1≤d∧pos+d≤s.size:=by
        by_cases hc:(s.get! pos).toNat<128
        · refine⟨_,_,dec_low s pos hc,.inl hc,?_,Nat.le_refl _,hp⟩
          rw[get_drop s pos hp,any_cons];unfold inSet;rw[decide_eq_true hc,Bool.true_and];simp
        · obtain⟨r,d,h1,h2,h3,h4,h5,h6⟩:=dec_high s pos hp (by omega)
          refine⟨r,d,h1,.inr h3,?_,h4,h5⟩;unfold inSet;rw[decide_eq_false (by omega),Bool.false_and,Bool.false_or];exact h6 _ HC.out.1
      have hnx:∀ty,(Instr.next (.pointer (some ⟨w.heap.size,0,none⟩)) true ty).run Tryz.prog wr= .ok (.tuple #[.bool true,.int .i64 pos,.int .i32 (r:Int)]) (wr.iterAt w.heap.size s (pos+d)):=fun ty=>(by rw[Lib.run_next_any_at wr w.heap.size s pos ty hit hp,hd]);have hit2:=Lib.iterAt_heap wr w.heap.size s pos (pos+d) hit;have hb2:=Lib.below_iterAt hb (Nat.le_refl _) s (pos+d);obtain⟨W,hW⟩:∃W,wr.iterAt w.heap.size s (pos+d)=W:=⟨_,rfl⟩;rw[hW]at hnx hit2 hb2;have HI:=yH (rune_in cs HC.out.1 HC.out.2 r hr W);rw[hk]at hstep;have HS:=yH hstep;have HX:=yH (And.intro hit2 (And.intro hb2 (And.intro hw1 (And.intro hw2 hit))));clear hit hb hk hd hr hstep hw1 hw2 hit2 hb2 hW hlt;obtain⟨B,hB⟩:∃B,inSet cs.data.toList r=B:=⟨_,rfl⟩;rw[hB]at HI HS;clear hB
      cases B
      · go_wp2_with (go_at_call 190;refine HI.out.mono ?_;rintro e w1 ⟨k,rfl,hk,hb⟩;have hk0:¬(0:Int)≤k:=of_decide_eq_false hk;have HB:=yH hb;clear hk hb)
        go_roundw
        case rel=>exact⟨pos+d,(HB.out.block _ (gS.1 HX.out.1).1).trans HX.out.1,HX.out.2.1.trans (HB.out.mono HX.out.2.1.size),by rw[HS.out];rfl,HX.out.2.2.2.1⟩
        case measure=>
          have e1:=(HB.out.block _ (gS.1 HX.out.1).1).trans HX.out.1;have e2:=HX.out.2.2.2.2;have:=HX.out.2.2.1;simp only[World.iterPos,e1,e2];omega
      · go_wp2_with (go_at_call 190;refine HI.out.mono ?_;rintro e w1 ⟨k,rfl,hk,hb⟩;have hk0:(0:Int)≤k:=of_decide_eq_true hk;have HB:=yH hb;clear hk hb)
        go_ret;exact⟨_,rfl,by rw[HS.out];simp,HX.out.2.1.trans (HB.out.mono HX.out.2.1.size)⟩
    · have hnx:∀ty,(Instr.next (.pointer (some ⟨w.heap.size,0,none⟩)) true ty).run Tryz.prog wr=_:=fun ty=>Lib.run_next_end_at wr w.heap.size s pos ty hit hp
      have HK:=yH (show false=R by rw[←hk,drop_all s pos hp];rfl);have HB:=yH hb;clear hk hit hb hlt;go_wp2_with fail;go_ret;exact⟨_,rfl,by rw[←HK.out];rfl,HB.out⟩
theorem any_long (s cs:ByteArray) (hs:∀b∈cs.data.toList,b.toNat<128) (h2:2≤cs.size) (hz:cs.size≤100) (h8:8<s.size) (hsz:s.size≤1048576) (w:World):
    Calls Tryz.prog 216 #[.string s,.string cs] w fun e w'=> ∃k:Int,e= .returned (.int .i64 k)∧decide (0≤k)=anyIn s.data.toList cs.data.toList∧Below w.heap.size w w':=by
  refine(Tryz.strings_IndexAny_long (zero_of_info (n:=256) (by kernel_rfl)).1 s cs w h2 h8 (by omega) (by omega) (fun j b h=>hs b (List.mem_of_getElem? h))).mono ?_;rintro e w' ⟨rfl,rfl⟩;refine⟨_,rfl,?_,((Below.refl _ w).alloc (Nat.le_refl _) _).alloc (by rw[World.size_alloc];omega) _⟩
  generalize s.data.toList=l
  induction l with
  |nil=>rfl
  |cons b l ih=>
    rw[any_cons,←ih,Lib.indexAny];have hm:=Lib.indexAny_ge cs.data.toList l
    cases h:cs.data.toList.contains b with
    |true=>rfl
    |false=>
      by_cases e:Lib.indexAny l cs.data.toList= -1
      · rw[e];decide
      · have e2:(Lib.indexAny l cs.data.toList== -1)=false:=by simpa using e
        rw[e2];simp only[Bool.false_eq_true,↓reduceIte,Bool.false_or];rw[decide_eq_true (by omega),decide_eq_true (by omega)]
theorem contains_any (s cs:ByteArray) (hs:∀b∈cs.data.toList,b.toNat<128) (h2:2≤cs.size) (hz:cs.size≤100) (hsz:s.size≤1048576) (w:World):
    Calls Tryz.prog 188 #[.string s,.string cs] w fun e w'=>e= .returned (.bool (anyIn s.data.toList cs.data.toList))∧Below w.heap.size w w':=by
  have hi:Calls Tryz.prog 216 #[.string s,.string cs] w fun e w'=> ∃k:Int,e= .returned (.int .i64 k)∧decide (0≤k)=anyIn s.data.toList cs.data.toList∧Below w.heap.size w w':=by
    by_cases h8:s.size≤8
    · exact any_short s cs hs h2 hz h8 w
    · exact any_long s cs hs h2 hz (by omega) hsz w
  generalize anyIn s.data.toList cs.data.toList=B at hi ⊢
  have HI:=yH hi;clear hi hs h2 hz hsz;go_enter Tryz.func188,Tryz.ntmps188
  go_wp2_with (go_at_call 216;refine HI.out.mono ?_;rintro e w1 ⟨k,rfl,hk,hb⟩;have HB:=yH (And.intro hk hb);clear hk hb)
  go_ret;exact⟨ret_bool HB.out.1,HB.out.2⟩
theorem ahead_index:∀(l:List UInt8),(∃i,i<l.length∧Lib.indexByte l 61=(i:Int)∧aheadT l=some (l.take i))∨(Lib.indexByte l 61= -1∧aheadT l=none)
  | []=> .inr ⟨rfl,rfl⟩
  |b::l=>by
    rw[Lib.indexByte,aheadT]
    by_cases h:b=61
    · subst h
      exact .inl ⟨0,by simp,by simp,by simp⟩
    · have h1:(b==61)=false:=by simpa using h
      rw[h1,if_neg h]
      rcases ahead_index l with ⟨i,h2,h3,h4⟩|⟨h3,h4⟩
      · refine .inl ⟨i+1,by simpa using h2,?_,?_⟩
        · rw[h3]
          have:(((i:Int))== -1)=false:=beq_eq_false_iff_ne.2 (by omega);rw[this];simp
        · rw[h4];rfl
      · exact .inr ⟨by rw[h3];rfl,by rw[h4];rfl⟩
set_option maxHeartbeats 2000000 in
set_option maxRecDepth 100000 in
theorem slcut_any (s:ByteArray) (w:World) (hs:s.size≤1048576):
    Calls Tryz.prog 239 #[.string s,.string ⟨#[61]⟩] w fun e w'=> ∃a b:ByteArray,∃f:Bool,e= .returned (.tuple #[.string a,.string b,.bool f])∧(aheadT s.data.toList=if f then some a.data.toList else none)∧∃n,w'=w.drewN n:=by
  have HI:=yH (fun W=>Tryz.stringslite_Index_one s 61 W)
  rcases ahead_index s.data.toList with ⟨i,h1,h2,h3⟩|⟨h2,h3⟩
  · rw[h3]
    rw[h2]at HI;rw[←Lib.size_eq]at h1;have c1:(0:Int)≤(i:Int):=(by omega);have c2:(i:Int)≤(s.size:Int):=(by omega);obtain⟨m,hm⟩:∃m:Nat,m=i+1:=⟨_,rfl⟩
    have hwr:IntKind.i64.wrap ((i:Int)+1)=(m:Int):=by
      have e:(m:Int)=(i:Int)+1:=(by omega);rw[e];exact IntWalk.i64_in _ ⟨by omega,by omega⟩
    have c3:(0:Int)≤(m:Int):=(by omega);have c4:(m:Int)≤(s.size:Int):=(by omega);have HS:=yH (show s.data.toList.take i=(s.extract 0 i).data.toList by simp[ByteArray.data_extract]);clear h1 h2 h3 hm hs;go_enter Tryz.func239,Tryz.ntmps239
    go_wp2_with (go_at_call 249;refine(HI.out _).mono ?_;rintro e w' ⟨rfl,rfl⟩)
    go_quiet (fail)
    go_wp2_with fail
    go_ret3
    exact⟨_,_,_,rfl,by rw[HS.out];rfl,_,rfl⟩
  · rw[h3]
    rw[h2]at HI;clear h2 h3 hs;go_enter Tryz.func239,Tryz.ntmps239
    go_wp2_with (go_at_call 249;refine(HI.out _).mono ?_;rintro e w' ⟨rfl,rfl⟩)
    go_ret3
    exact⟨_,_,_,rfl,rfl,0,rfl⟩
theorem cut_any (s:ByteArray) (w:World) (hs:s.size≤1048576):
    Calls Tryz.prog 215 #[.string s,.string ⟨#[61]⟩] w fun e w'=> ∃a b:ByteArray,∃f:Bool,e= .returned (.tuple #[.string a,.string b,.bool f])∧(aheadT s.data.toList=if f then some a.data.toList else none)∧Below w.heap.size w w':=by
  have HI:=yH (slcut_any s w hs);clear hs;go_enter Tryz.func215,Tryz.ntmps215
  go_wp2_with (go_at_call 239;refine HI.out.mono ?_;rintro e w1 ⟨a,b,f,rfl,hf,n,rfl⟩;have HF:=yH hf;clear hf)
  go_ret3
  exact⟨_,_,_,rfl,HF.out,below_drew _ _ _⟩
end Go.Proofs.YtcpmjkefbjbhpaaGreatDoor
