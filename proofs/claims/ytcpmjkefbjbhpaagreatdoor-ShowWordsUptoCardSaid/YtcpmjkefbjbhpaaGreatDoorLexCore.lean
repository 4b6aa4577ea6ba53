/-
  Proved: what the texts on the statements' own lexer share with those on the program's: how words and tokens lie in memory, what a row of them becomes by one more, plain facts on letters. Conditions: as each says.
-/
import Derived.Test.YtcpmjkefbjbhpaaGreatDoorSw00
import Derived.Test.YtcpmjkefbjbhpaaGreatDoorSw01
import Derived.BigCall
import Derived.Deep.RegionLaw
import Derived.Laws.ResultCell
import Derived.Lib.OthersKept
import Derived.OneCell
import Derived.OwnWalk
namespace Go.Proofs.YtcpmjkefbjbhpaaGreatDoor
open Go Go.RowKit GlyphMath LexMath
theorem next_zero {xs:List Nat} (h:∀x∈xs,GoodL x):next xs=0↔xs= []:=by
  cases xs with
  |nil=>simp[next]
  |cons a r=>
    have:=(h a (by simp)).1;simp[next];omega
def zeroPart:Array Value:= #[.int .i64 0,.string ⟨#[]⟩,.string ⟨#[]⟩,.slice none 0 0,.bool false]
theorem new_block (w:World) (cs:Array Value) (t:TypeId):∀(j:Nat) (u:Value),cs.toList[j]? =some u→(w.alloc (.cells cs t)).drew.cell? ((⟨w.heap.size,0,none⟩:Addr).add j)=some u:=by
  intro j u hu;have h:(w.alloc (.cells cs t)).drew.heap[w.heap.size]? =some (.cells cs t (0,0)):=heap_alloc_new w _;exact World.news_of_block h j u hu
theorem bytes_append (a b:List UInt8):(⟨a.toArray⟩:ByteArray)++⟨b.toArray⟩=⟨(a++b).toArray⟩:=by
  apply ByteArray.ext;rw[ByteArray.data_append];simp
theorem bytes_size (a:List UInt8):(⟨a.toArray⟩:ByteArray).size=a.length:=by simp[ByteArray.size]
theorem rowCells_set (ps:List Pt) (vs:List Value) (p:Pt) (u:Value) (t:List UInt8) (hl:ps.length=vs.length):
    (rowCells (ps++ [p]) (vs++ [u])).set (ps.length*5+1) (txt t)=rowCells (ps++ [{ p with text:=t }]) (vs++ [u]):=by
  rw[rowCells_append _ _ _ _ hl,rowCells_append _ _ _ _ hl,List.set_append_right _ _ (by rw[rowCells_length _ _ hl];omega),rowCells_length _ _ hl]
  congr 1
  rw[show ps.length*5+1-ps.length*5=1 by omega];rfl
theorem infoPart:(Tryz.prog.info? 55).map (fun i=>(i.zero,i.size,i.bytes))=some (some (.agg #[.int .i64 0,.string ⟨#[]⟩,.string ⟨#[]⟩,.slice none 0 0,.bool false]),5,72):=by kernel_rfl
theorem encode_good {c:Nat} (h:GoodL c):(.string (Utf8.encode (c:Int)):Value)=txt (enc [c]):=by
  have hv:=valid_good h
  have e:Utf8.encode (c:Int)=⟨(eb c).toArray⟩:=by
    have hc:(if Utf8.valid (c:Int)then (c:Int).toNat else Utf8.runeError)=c:=by rw[hv];rfl
    have e0:Utf8.encode (c:Int)=(if c<0x80 then⟨#[UInt8.ofNat c]⟩else if c<0x800 then⟨#[UInt8.ofNat (0xC0+c/64),UInt8.ofNat (0x80+c % 64)]⟩else if c<0x10000 then⟨#[UInt8.ofNat (0xE0+c/4096),UInt8.ofNat (0x80+c/64 % 64),UInt8.ofNat (0x80+c % 64)]⟩else ⟨#[UInt8.ofNat (0xF0+c/262144),UInt8.ofNat (0x80+c/4096 % 64),UInt8.ofNat (0x80+c/64 % 64),UInt8.ofNat (0x80+c % 64)]⟩):=by
      conv=>rhs;rw[←hc]
      rfl
    rw[e0];unfold eb
    by_cases k1:c<128
    · rw[if_pos k1,if_pos k1]
    · rw[if_neg k1,if_neg k1]
      by_cases k2:c<2048
      · rw[if_pos k2,if_pos k2]
      · rw[if_neg k2,if_neg k2]
        by_cases k3:c<65536
        · rw[if_pos k3,if_pos k3]
        · rw[if_neg k3,if_neg k3]
  rw[e];simp[txt,enc]
theorem five_cells {w:World} {k:Nat} {a b c d e:Value} {t:TypeId} {fr:Nat×Nat} (h:w.heap[k]? =some (.cells #[a,b,c,d,e] t fr)):
    w.cell? ⟨k,0,none⟩=some a∧w.cell? ⟨k,1,none⟩=some b∧w.cell? ⟨k,2,none⟩=some c∧w.cell? ⟨k,3,none⟩=some d∧w.cell? ⟨k,4,none⟩=some e:=by
  refine⟨?_,?_,?_,?_,?_⟩<;>simp[World.cell?,h]
theorem five_free {w:World} {k:Nat} {a b c d e:Value} {t:TypeId} (h:w.heap[k]? =some (.cells #[a,b,c,d,e] t (0,0))) (j:Nat):w.frozen? ⟨k,j,none⟩=false:=frozen_plain h j
theorem five_kept {D:Nat→Prop} {k:Nat} {w w':World} (hb:Kept D w w') (hk:D k∨w.heap.size≤k) (a b c d e:Value):Kept D w (((((w'.setCell ⟨k,0,none⟩ a).setCell ⟨k,1,none⟩ b).setCell ⟨k,2,none⟩ c).setCell ⟨k,3,none⟩ d).setCell ⟨k,4,none⟩ e):=
  ((((hb.setCell (p:=⟨k,0,none⟩) hk _).setCell (p:=⟨k,1,none⟩) hk _).setCell (p:=⟨k,2,none⟩) hk _).setCell (p:=⟨k,3,none⟩) hk _).setCell (p:=⟨k,4,none⟩) hk _
theorem five_put {w:World} {k:Nat} {x0 x1 x2 x3 x4:Value} {t:TypeId} (h:w.heap[k]? =some (.cells #[x0,x1,x2,x3,x4] t (0,0))) (a b c d e:Value):
    (((((w.setCell ⟨k,0,none⟩ a).setCell ⟨k,1,none⟩ b).setCell ⟨k,2,none⟩ c).setCell ⟨k,3,none⟩ d).setCell ⟨k,4,none⟩ e).heap[k]? =some (.cells #[a,b,c,d,e] t (0,0)):=
  heap_setCell_same _ k 4 _ t e (heap_setCell_same _ k 3 _ t d (heap_setCell_same _ k 2 _ t c (heap_setCell_same _ k 1 _ t b (heap_setCell_same w k 0 _ t a h))))
theorem part_info:(Tryz.prog.info? 55).map (·.size)=some 5:=by kernel_rfl
theorem load_part {w:World} {k:Nat} {a b c d e:Value} {t:TypeId} {fr:Nat×Nat} (h:w.heap[k]? =some (.cells #[a,b,c,d,e] t fr)):(loadVar 55 ⟨k,0,none⟩).run Tryz.prog w= .ok (.agg #[a,b,c,d,e]) w:=
  run_loadVar_row (P:=Tryz.prog) w k t 55 _ fr _ h Tryz.underlying55 rfl part_info
def zeroV:Value:= .slice none 0 0
theorem bytes_eb {c:Nat} (h:GoodL c):Utf8.encode (c:Int)=⟨(eb c).toArray⟩:=by
  have:=encode_good h
  simpa [txt,enc]using this
theorem asLetter_good {c:Nat} (h:GoodL c):asLetter (c:Int)=c:=by unfold asLetter;rw[valid_good h];rfl
theorem firstBad_eb {c:Nat} (h:GoodL c):firstBad ⟨(eb c).toArray⟩=none:=by
  rw[←bytes_eb h];have hs:=(encode_size (c:Int)).1;unfold firstBad;obtain⟨n,hn⟩:∃n,(Utf8.encode (c:Int)).size=n+1:=⟨(Utf8.encode (c:Int)).size-1,by omega⟩;rw[hn,badAt,if_pos (by omega)]
  have hb:bad (Utf8.encode (c:Int)) 0=false:=by
    unfold bad;rw[decode_encode,asLetter_good h]
    have h0:(c==0)=false:=by
      have:=h.1;have:¬c=0:=(by omega)
      simpa using this
    rw[h0,Bool.false_or]
    by_cases hc:c=65533
    · subst hc;rfl
    · have:(c==65533)=false:=by simpa using hc
      rw[this];rfl
  rw[hb,decode_encode];exact badAt_end _ _ _ (by simp only;omega)
theorem letters_enc:∀(l:List Nat),(∀c∈l,GoodL c)→letters ⟨(enc l).toArray⟩=l
  | [],_=>rfl
  |c::r,h=>by
    have hc:=h c (by simp);have ih:=letters_enc r fun x hx=>h x (List.mem_cons_of_mem _ hx);have e:(⟨(enc (c::r)).toArray⟩:ByteArray)=⟨(eb c).toArray⟩++⟨(enc r).toArray⟩:=(by rw[bytes_append];rfl);rw[e,letters_append _ _ (firstBad_eb hc),ih,←bytes_eb hc,letters_encode,asLetter_good hc];rfl
def ZB:Obj:= .cells #[.int .i64 0,.string ⟨#[]⟩,.string ⟨#[]⟩,.slice none 0 0,.bool false] 55
theorem eb_len (r:Nat):(eb r).length=if r<128 then 1 else if r<2048 then 2 else if r<65536 then 3 else 4:=by
  unfold eb
  repeat' split
  all_goals first|rfl|omega
set_option maxHeartbeats 4000000 in
theorem decN_good (n b0 b1 b2 b3 r d:Nat) (hb:b0<256) (he:Lib.decodeN n b0 b1 b2 b3=(r,d)) (h0:¬(r=65533∧d=1)) (h1:r≠0):GoodL r∧d=(eb r).length:=by
  rw[eb_len];unfold GoodL;unfold Lib.decodeN at he
  split at he
  · obtain⟨rfl,rfl⟩:=Prod.mk.inj he
    refine⟨⟨by omega,by omega,by omega⟩,?_⟩;rw[if_pos (by assumption)]
  · split at he
    · split at he
      · obtain⟨rfl,rfl⟩:=Prod.mk.inj he
        refine⟨⟨by omega,by omega,by omega⟩,?_⟩;rw[if_neg (by omega),if_pos (by omega)]
      · obtain⟨rfl,rfl⟩:=Prod.mk.inj he
        exact absurd ⟨rfl,rfl⟩ h0
    · split at he
      · split at he
        · obtain⟨rfl,rfl⟩:=Prod.mk.inj he
          refine⟨⟨by omega,by omega,by omega⟩,?_⟩;rw[if_neg (by omega),if_neg (by omega),if_pos (by omega)]
        · obtain⟨rfl,rfl⟩:=Prod.mk.inj he
          exact absurd ⟨rfl,rfl⟩ h0
      · split at he
        · split at he
          · obtain⟨rfl,rfl⟩:=Prod.mk.inj he
            refine⟨⟨by omega,by omega,by omega⟩,?_⟩;rw[if_neg (by omega),if_neg (by omega),if_neg (by omega)]
          · obtain⟨rfl,rfl⟩:=Prod.mk.inj he
            exact absurd ⟨rfl,rfl⟩ h0
        · obtain⟨rfl,rfl⟩:=Prod.mk.inj he
          exact absurd ⟨rfl,rfl⟩ h0
theorem dec_good (s:ByteArray) (i:Nat) (hb:bad s i=false):GoodL (Utf8.decode s i).1∧(Utf8.decode s i).2=(eb (Utf8.decode s i).1).length:=by
  have h0:=not_bad hb;have h1:(Utf8.decode s i).1≠0:=fun e=>(by simp[bad,e]at hb);exact decN_good (s.size-i) (s.get! i).toNat (s.get! (i+1)).toNat (s.get! (i+2)).toNat (s.get! (i+3)).toNat _ _ (UInt8.toNat_lt _) (by rw[←Lib.decode_at]) h0 h1
theorem rest_text (s:ByteArray):∀n i,s.size-i≤n→i≤s.size→badFrom s i=none→(enc (rest s i)).length=s.size-i∧∀c∈rest s i,GoodL c
  |0,i,hn,hi,_=>by
    rw[rest_end s i (by omega)];exact⟨by simp[enc];omega,fun c hc=>by cases hc⟩
  |n+1,i,hn,hi,hb=>by
    by_cases h:i<s.size
    · rw[badFrom_step s i h]at hb
      cases hbd:bad s i with
      |true=>rw[hbd]at hb;simp at hb
      |false=>
        rw[hbd]at hb;have hb':badFrom s (i+(Utf8.decode s i).2)=none:=(by simpa using hb);obtain⟨g1,g2⟩:=dec_good s i hbd;have w1:=width_pos s i h;have w2:=width_le s i h;obtain⟨k1,k2⟩:=rest_text s n (i+(Utf8.decode s i).2) (by omega) (by omega) hb';rw[rest_step s i h];refine⟨?_,fun c hc=> ?_⟩
        · rw[enc,List.length_append,k1,←g2];omega
        · rcases List.mem_cons.1 hc with rfl|hc
          · exact g1
          · exact k2 c hc
    · rw[rest_end s i h]
      exact⟨by simp[enc];omega,fun c hc=>by cases hc⟩
theorem text_none {s:ByteArray} (h:isText s=true):firstBad s=none:=by
  unfold isText at h
  simpa using h
theorem text_good {s:ByteArray} (h:isText s=true):(enc (letters s)).length=s.size∧∀c∈letters s,GoodL c:=by
  have:=rest_text s s.size 0 (by omega) (by omega) (text_none h)
  rwa [rest_zero]at this
theorem four_kept {D:Nat→Prop} {k:Nat} {w w':World} (hb:Kept D w w') (hk:D k∨w.heap.size≤k) (a b c d:Value):Kept D w ((((w'.setCell ⟨k,0,none⟩ a).setCell ⟨k,1,none⟩ b).setCell ⟨k,2,none⟩ c).setCell ⟨k,3,none⟩ d):=
  (((hb.setCell (p:=⟨k,0,none⟩) hk _).setCell (p:=⟨k,1,none⟩) hk _).setCell (p:=⟨k,2,none⟩) hk _).setCell (p:=⟨k,3,none⟩) hk _
theorem sign_less:∀(l:List (List Nat)) (xs p r:List Nat),(∀q∈l,q≠ [])→signM l xs=some (p,r)→Less xs r
  | [],_,_,_,_,h=>by cases h
  |q::l,xs,p,r,hl,h=>by
    rw[signM]at h
    cases ht:takes q xs with
    |some ys=>rw[ht]at h;cases h;exact takes_less ht (hl q (by simp))
    |none=>rw[ht]at h;exact sign_less l xs p r (fun q' hq=>hl q' (List.mem_cons_of_mem _ hq)) h
theorem sign_none:∀(l:List (List Nat)) (xs:List Nat) (c:Nat),signM l xs=none→ [c]∈l→next xs≠c∨xs= []
  | [],_,_,_,h=>by cases h
  |q::l,xs,c,h,hm=>by
    rw[signM]at h
    cases ht:takes q xs with
    |some ys=>rw[ht]at h;cases h
    |none=>
      rw[ht]at h
      rcases List.mem_cons.1 hm with rfl|hm
      · rw[takes_one]at ht
        by_cases e:next xs=c∧xs≠ []
        · rw[if_pos e]at ht;cases ht
        · by_cases e1:xs= []
          · exact .inr e1
          · exact .inl fun e2=>e ⟨e2,e1⟩
      · exact sign_none l xs c h hm
theorem word_less {xs r:List Nat} {ps:List Pt} (hg:∀c∈xs,GoodL c) (hx:xs≠ []) (hs:signM signs xs=none) (ha:next xs≠38) (h32:next xs≠32) (h9:next xs≠9) (h:partsM 20 xs= .ok (ps,r)):Less xs r:=by
  have hn:∀c,[c]∈signs→next xs≠c:=fun c hc=>(sign_none signs xs c hs hc).resolve_right hx
  have e:ends (next xs) (decide (19<19))=false:=by
    have h1:=hn 59 (by decide);have h2:=hn 124 (by decide);have h3:=hn 40 (by decide);have h4:=hn 41 (by decide);have h5:=hn 60 (by decide);have h6:=hn 62 (by decide);have h7:=hn 10 (by decide);have hb:blankR (next xs:Int)=false:=(by unfold blankR;simp;omega);show(blankR (next xs:Int)||(next xs==59||next xs==38||next xs==124||next xs==40||next xs==41||next xs==60||next xs==62))=false;rw[hb];simp[h1,h2,h3,h4,h5,h6,ha]
  have h0:next xs≠0:=fun e0=>hx ((next_zero hg).1 e0);have hb:=braces_ok (parts_ok 19) false;have h':partsL (bracesM false (partsM 19)) (decide (19<19)) (xs.length+1) xs []= .ok (ps,r):=h;rw[partsL,if_neg (by rintro(h1|h1);exact h0 h1;rw[e]at h1;cases h1)]at h'
  cases hp:partM (bracesM false (partsM 19)) (decide (19<19)) xs []with
  |error c=>rw[hp]at h';cases h'
  |ok a=>
    obtain⟨ps',xs'⟩:=a;rw[hp]at h';simp only at h';exact(part_less hb hp h0 e).1.suf (partsL_suf hb _ _ _ _ _ h')
theorem token_less {n:Nat} {xs r:List Nat} {t:Tk} (hg:∀c∈xs,GoodL c) (hx:xs≠ []) (h32:next xs≠32) (h9:next xs≠9) (h:tokenM n xs= .ok (t,r)):Less xs r∧t.kind≠3:=by
  unfold tokenM at h
  cases hs:signM signs xs with
  |some a=>
    obtain⟨p,r'⟩:=a;rw[hs]at h
    cases h
    exact⟨sign_less signs _ _ _ (by decide) hs,by simp⟩
  |none=>
    rw[hs]at h;simp only at h
    by_cases ha:next xs=38
    · rw[if_pos ha]at h;cases h
    · rw[if_neg ha]at h
      cases hp:partsM 20 xs with
      |error c=>rw[hp]at h;cases h
      |ok a=>
        obtain⟨ps,r'⟩:=a;rw[hp]at h
        cases h
        exact⟨word_less hg hx hs ha h32 h9 hp,by simp⟩
def tcells (t:Tk) (u:Value):List Value:= [.int .i64 t.kind,txt t.text,u,.int .i64 (t.at_:Int)]
def tokCells:List Tk→List Value→List Value
  |t::ts,u::us=>tcells t u++tokCells ts us
  |_,_=> []
theorem tokCells_append:∀(ts:List Tk) (us:List Value) (qs:List Tk) (vs:List Value),ts.length=us.length→tokCells (ts++qs) (us++vs)=tokCells ts us++tokCells qs vs
  | [],[],_,_,_=>rfl
  |t::ts,u::us,qs,vs,h=>by
    simp only[List.cons_append,tokCells,tokCells_append ts us qs vs (by simpa using h),List.append_assoc]
  | [],_::_,_,_,h=>by simp at h
  |_::_,[],_,_,h=>by simp at h
structure TokO (w:World) (B X:Nat) (v:Value) (us:List Value) (F:Nat→Prop) (ts:List Tk):Prop where
  own:w.ownsRow B 53 4 v ts.length (tokCells ts us)
  len:ts.length=us.length
  sub:∀(j:Nat) (t:Tk) (u:Value),ts[j]? =some t→us[j]? =some u→WordV w F u t.word
  far:∀g,F g→B≤g∧g<w.heap.size∧g≠X∧v.ownBlock≠some g
  ne:v.ownBlock≠some X
theorem TokO.kept {D:Nat→Prop} {w w':World} {B X:Nat} {v:Value} {us:List Value} {F:Nat→Prop} {ts:List Tk} (h:TokO w B X v us F ts) (hk:Kept D w w') (hD:∀k,B≤k→k<w.heap.size→k≠X→¬D k):TokO w' B X v us F ts where
  own:=ownsRow_same h.own fun g hg=>hk.block g (World.ownsRow.lt h.own g hg).2 (hD g (World.ownsRow.lt h.own g hg).1 (World.ownsRow.lt h.own g hg).2 fun e=>h.ne (by rw[hg,e]))
  len:=h.len
  sub:=fun j t u ht hu=>(h.sub j t u ht hu).same fun g hg=>hk.block g (h.far g hg).2.1 (hD g (h.far g hg).1 (h.far g hg).2.1 (h.far g hg).2.2.1)
  far:=fun g hg=>⟨(h.far g hg).1,Nat.lt_of_lt_of_le (h.far g hg).2.1 hk.size,(h.far g hg).2.2⟩
  ne:=h.ne
theorem TokO.shape {w:World} {B X:Nat} {v:Value} {us:List Value} {F:Nat→Prop} {ts:List Tk} (h:TokO w B X v us F ts):∃a c,v= .slice a ts.length c:=by
  rcases h.own.2 with ⟨hv,h0⟩|⟨g,cap,cur,hv,_⟩
  · exact⟨none,0,by rw[hv,h0]⟩
  · exact⟨_,_,hv⟩
theorem TokO.nil (w:World) (B X:Nat):TokO w B X (.slice none 0 0) [] (fun _=>False) []:=
  ⟨World.ownsRow_nil _ _ _ _,rfl,fun _ _ _ h=>by simp at h,fun _ h=>h.elim,by simp[Value.ownBlock]⟩
theorem TokO.add {w0 w1:World} {B X C g cap:Nat} {v u:Value} {us:List Value} {F:Nat→Prop} {ts:List Tk} {t:Tk} {o:Obj} (h:TokO w0 B X v us F ts) (hX:X<w0.heap.size) (hC:WordN w0 C u t.word) (hBC:B≤C) (hXC:X<C) (hvC:∀g,v.ownBlock=some g→g<C)
    (hown:w1.ownsRow B 53 4 (.slice (some ⟨g,0,none⟩) (ts.length+1) cap) (ts.length+1) (tokCells ts us++tcells t u)) (hgrow:(w0.alloc o).grownBy w1 v.ownBlock) (hat:v.ownBlock=some g∨g=w0.heap.size+1):
    ∃F',TokO w1 B X (.slice (some ⟨g,0,none⟩) (ts.length+1) cap) (us++ [u]) F' (ts++ [t]):=by
  obtain⟨F2,c1,c2⟩:=hC;have hsz:(w0.alloc o).heap.size=w0.heap.size+1:=(by simp);have hs1:=hgrow.size;rw[hsz]at hs1;have hold:∀j,j<w0.heap.size→v.ownBlock≠some j→w1.heap[j]? =w0.heap[j]? :=fun j hj hn=>(hgrow.block j (by rw[hsz];omega) (fun e=>hn e.symm)).trans (Below.heap_alloc _ _ _ hj);have hg:∀i,i<w0.heap.size→v.ownBlock≠some i→g≠i:=fun i hi hn e=>hat.elim (fun e2=>hn (by rw[e2,e])) fun e2=>(by omega);refine⟨fun j=>F j∨F2 j,{ own:= ?_,len:=by simp[h.len],sub:=fun j q x hq hx=> ?_,far:=fun j hj=> ?_,ne:=fun e=> ?_ }⟩
  · rw[tokCells_append _ _ _ _ h.len]
    simpa [tokCells]using hown
  · rcases Nat.lt_or_ge j ts.length with hj|hj
    · rw[List.getElem?_append_left hj]at hq
      rw[List.getElem?_append_left (by rw[←h.len];exact hj)]at hx;exact((h.sub j q x hq hx).same fun i hi=>hold i (h.far i hi).2.1 (h.far i hi).2.2.2).mono fun i hi=> .inl hi
    · rw[List.getElem?_append_right hj]at hq
      rw[List.getElem?_append_right (by rw[←h.len];exact hj)]at hx;obtain⟨hj0,hq0⟩:=List.getElem?_eq_some_iff.1 hq;obtain⟨_,hx0⟩:=List.getElem?_eq_some_iff.1 hx;simp only[List.length_singleton]at hj0;simp only[List.getElem_singleton]at hq0 hx0;subst hq0 hx0;exact(c1.same fun i hi=>hold i (c2 i hi).2 (fun e=>by have:=hvC i e;have:=(c2 i hi).1;omega)).mono fun i hi=> .inr hi
  · rcases hj with hj|hj
    · obtain⟨a1,a2,a3,a4⟩:=h.far j hj
      exact⟨a1,by omega,a3,fun e=>hg j a2 a4 (by simpa [Value.ownBlock]using e)⟩
    · obtain⟨a1,a2⟩:=c2 j hj
      exact⟨by omega,by omega,by omega,fun e=>hg j a2 (fun e2=>by have:=hvC j e2;omega) (by simpa [Value.ownBlock]using e)⟩
  · exact hg X hX h.ne (by simpa [Value.ownBlock]using e)
def TksEnd (w w':World) (e:Ending) (sz:Nat) (m:Except (Nat×Nat) (List Tk)):Prop:=
  match m with
  | .ok ts=> ∃v X us F,e= .returned (.tuple #[v,.int .i64 (sz:Int),.int .i64 0])∧TokO w' w.heap.size X v us F ts∧Below w.heap.size w w'
  | .error (n,c)=>(c=2∨c=3)∧e= .returned (.tuple #[zeroV,.int .i64 (n:Int),.int .i64 (c:Int)])∧Below w.heap.size w w'
theorem infoTok:(Tryz.prog.info? 53).map (fun i=>(i.zero,i.size,i.bytes))=some (some (.agg #[.int .i64 0,.string ⟨#[]⟩,.slice none 0 0,.int .i64 0]),4,56):=by kernel_rfl
theorem below_kept {D:Nat→Prop} {w w1 w2:World} {B:Nat} (h:Below B w w1) (k:Kept D w1 w2) (hD:∀i,D i→B≤i) (hB:B≤w1.heap.size):Below B w w2:=
  h.trans ⟨k.os,k.tape,k.output,k.size,fun i hi=>k.block i (by omega) fun hd=>by have:=hD i hd;omega⟩
theorem tokensL_end {sz f:Nat} {xs:List Nat} {l:List Tk} (h:skipM xs= []):tokensL sz (f+1) xs l= .ok (l++ [⟨3,[],[],sz⟩]):=by rw[tokensL,if_pos h]
theorem tokensL_bad {sz f c:Nat} {xs:List Nat} {l:List Tk} (h:skipM xs≠ []) (ht:tokenM (sz-(enc (skipM xs)).length) (skipM xs)= .error c):tokensL sz (f+1) xs l= .error (sz-(enc (skipM xs)).length,c):=by rw[tokensL,if_neg h,ht]
theorem tokensL_go {sz f:Nat} {xs r:List Nat} {l:List Tk} {t:Tk} (h:skipM xs≠ []) (ht:tokenM (sz-(enc (skipM xs)).length) (skipM xs)= .ok (t,r)):tokensL sz (f+1) xs l=tokensL sz f r (l++ [t]):=by rw[tokensL,if_neg h,ht]
theorem tok_append {ops:Array Oper} {rest:List Oper} {o:Oper} {a:Act} {Q:Exit→Act→World→Prop} {W:World} (hgd:o.guard=none) (s x:Operand)
    (ho:o.op= .call { callee:= .builtin .append,args:= #[s,x],argTypes:= #[49,49] }) (base:Nat) (v:Value) (k:Nat) (xs:List Value) (hs:a.eval s=v)
    (hown:W.ownsRow base 53 4 v k xs) (ad:Addr) (u1 u2 u3 u4:Value) (hx:a.eval x= .slice (some ad) 1 1) (hnews:∀(j:Nat) (u:Value),[u1,u2,u3,u4][j]? =some u→W.cell? (ad.add j)=some u)
    (h1:∀u∈ [u1,u2,u3,u4],u.oneCell'=true) (hk:k≤4000) (hbase:base≤W.heap.size) (H:Nat) (hH:W.heap.size=H)
    (h:∀g cap w',w'.ownsRow base 53 4 (.slice (some ⟨g,0,none⟩) (k+1) cap) (k+1) (xs++ [u1,u2,u3,u4])→W.grownBy w' v.ownBlock→(v.ownBlock=some g∨g=H)→g<w'.heap.size→wpList Tryz.prog ops Q rest (a.put o.dst (.slice (some ⟨g,0,none⟩) (k+1) cap)) w'):
    wpList Tryz.prog ops Q (o::rest) a W:=by
  obtain⟨i0,hi,hz0,hz1,hz2⟩:=info_parts infoTok
  exact wpList_append_lies W hgd s x 49 ho base 53 i0 (.agg #[.int .i64 0,.string ⟨#[]⟩,.slice none 0 0,.int .i64 0]) 4 56 Tryz.underlying49 hi hz0 hz1 hz2 rfl (by decide)
    v k xs hs hown ad 1 1 [u1,u2,u3,u4] hx rfl hnews h1 (by decide) (by unfold maxLen;omega) (by omega) hbase H hH h
end Go.Proofs.YtcpmjkefbjbhpaaGreatDoor
