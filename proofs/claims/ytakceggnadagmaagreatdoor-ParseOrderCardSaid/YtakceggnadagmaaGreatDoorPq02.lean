/-
  Proved: contracts of functions, plain facts. Conditions: as each says.
-/
import Derived.Test.YtakceggnadagmaaGreatDoorPq01
import Derived.Test.YtakceggnadagmaaGreatDoorPq00
import Derived.RegionTactic
import Derived.Deep.QuietTactic
import Derived.BigQuiet
import Derived.BigCall
import Derived.BigGuard
import Derived.Lib.IndexLaws
import Derived.Laws.Runes
import Derived.Deep.RegionLaw
import Derived.Laws.ResultCell
import Derived.Lib.OthersKept
import Derived.OneCell
import Derived.OwnWalk
import Derived.Great.BuildSlice
import Derived.Deep.WholeRow
namespace Go.Proofs.YtakceggnadagmaaGreatDoor
open Go Go.RowKit GlyphMath LexMath
theorem valid_good {r:Nat} (h:GoodL r):Utf8.valid (r:Int)=true:=by
  obtain⟨h0,h1,h2⟩:=h;simp only[Utf8.valid,Bool.or_eq_true,Bool.and_eq_true,decide_eq_true_eq];omega
theorem validRune_good {r:Nat} (h:GoodL r):Lib.validRune (r:Int)=true:=by
  obtain⟨h0,h1,h2⟩:=h;simp only[Lib.validRune,decide_eq_true_eq];omega
theorem indexByte_not:∀(l:List UInt8) (c:UInt8),(∀b∈l,b≠c)→Lib.indexByte l c= -1
  | [],_,_=>rfl
  |b::l,c,h=>by
    have h1:(b==c)=false:=(by simpa using h b (by simp));have ih:=indexByte_not l c fun x hx=>h x (List.mem_cons_of_mem _ hx);unfold Lib.indexByte;rw[h1,ih];rfl
set_option maxRecDepth 1000000 in
theorem index_none (s:ByteArray) (w:World) (hs:∀b∈s.data.toList,b.toNat<128):
    Calls Tryz.prog 144 #[.string s,.int .i32 65533] w fun e w'=>e= .returned (.int .i64 (-1))∧Below w.heap.size w w':=by
  have HS:=yH hs;clear hs;go_enter Tryz.func144,Tryz.ntmps144;go_wp2_with fail
  go_loopw [] (fun w'=> ∃(pos:Nat),w'=w.iter s pos) (fun w'=>s.size-w'.iterPos w.heap.size)
  case atStart=>exact⟨0,rfl⟩
  case round=>
    obtain⟨pos,rfl⟩:=hrel
    by_cases hp:pos<s.size
    · have hlow:(s[pos]'hp).toNat<128:=HS.out _ (by
        rw[ByteArray.getElem_eq_getElem_data]
        exact Array.getElem_mem_toList ..)
      have hnx:∀ty,(Instr.next (.pointer (some ⟨w.heap.size,0,none⟩)) true ty).run Tryz.prog (w.iter s pos)= .ok (.tuple #[.bool true,.int .i64 pos,.int .i32 (((s[pos]'hp).toNat:Nat):Int)]) (w.iter s (pos+1)):=fun ty=>(by rw[run_next_any w s pos ty hp,decode_ascii s pos hp hlow]);obtain⟨b,hb⟩:∃b,(s[pos]'hp).toNat=b:=⟨_,rfl⟩;rw[hb]at hnx hlow
      have hb1:((b:Int)==65533)=false:=by
        have:¬(b:Int)=65533:=by omega
        simpa using this
      clear hb hlow;go_wp2_with fail
      go_roundw
      case rel=>exact⟨pos+1,rfl⟩
      case measure=>simp;omega
    · have hnx:∀ty,(Instr.next (.pointer (some ⟨w.heap.size,0,none⟩)) true ty).run Tryz.prog (w.iter s pos)=_:=fun ty=>run_next_end w s pos ty hp
      go_wp2_with fail;go_ret;exact⟨rfl,below_iter w s pos⟩
theorem extract_mem {s:ByteArray} {i j:Nat} {b:UInt8} (h:b∈(s.extract i j).data.toList):b∈s.data.toList:=by
  rw[ByteArray.data_extract,Array.toList_extract]at h;exact List.mem_of_mem_drop (List.mem_of_mem_take (by simpa [List.extract]using h))
theorem below_drew (B:Nat) (w:World) (n:Nat):Below B w (w.drewN n):=⟨rfl,rfl,rfl,Nat.le_refl _,fun _ _=>rfl⟩
set_option maxHeartbeats 600000 in
set_option maxRecDepth 1000000 in
theorem index_high (s:ByteArray) (r:Nat) (w:World) (h0:128≤r) (hg:GoodL r) (hr:r≠65533) (hs:∀b∈s.data.toList,b.toNat<128) (hz:s.size≤100):
    Calls Tryz.prog 144 #[.string s,.int .i32 (r:Int)] w fun e w'=>e= .returned (.int .i64 (-1))∧Below w.heap.size w w':=by
  have hV:=yH (validRune_good hg);obtain⟨E,hE,hf⟩:∃E,Utf8.encode (r:Int)=E∧(2≤E.size∧E.size≤4∧∀h:E.size-1<E.size,128≤(E[E.size-1]'h).toNat):=⟨_,rfl,encode_facts (r:Int) (valid_good hg) (by omega)⟩;have HF:=yH hf;have HR:=yH hs;have hc1:(128:Int)≤(r:Int):=(by omega)
  have hc2:((r:Int)==65533)=false:=by
    have:¬(r:Int)=65533:=by omega
    simpa using this
  have HE:=yH hE;have HZ:=yH hz;clear hf h0 hr hs hg hz hE;go_enter Tryz.func144,Tryz.ntmps144;go_wp2_with fail;refine(Tryz.utf8_ValidRune _ _).mono ?_;rintro e w1 ⟨rfl,rfl⟩;rw[hV.out];go_wp2_with fail
  go_step3
  go_wp2_with fail;obtain⟨n,hn⟩:∃n,E.size=n+1:=⟨E.size-1,by have:=HF.out.1;omega⟩
  have hw:wrap64 (((Utf8.encode (r:Int)).size:Int)-1)=(n:Int):=by
    rw[HE.out,hn];have e:(((n+1:Nat):Int)-1)=(n:Int):=(by omega);rw[e];have:=HF.out.2.1;exact IntWalk.wrap64_in (n:Int) ⟨by omega,by omega⟩
  rw[hw,HE.out];have hne:(n:Int)<E.size:=(by omega);have hn3:(n:Int)≤3:=(by have:=HF.out.2.1;omega);have hn0:(1:Int)≤(n:Int):=(by have:=HF.out.1;omega);have HN:=yH hn;clear hw hn
  by_cases hsz:(n:Int)<s.size
  · have hss:n<s.size:=by omega
    have hee:n<E.size:=by omega
    have hb1:(s[n]'hss).toNat<128:=HR.out _ (by
      rw[ByteArray.getElem_eq_getElem_data]
      exact Array.getElem_mem_toList ..)
    have hb2:128≤(E[n]'hee).toNat:=by
      have h:=HF.out.2.2 (by have:=HN.out;omega);have e:E.size-1=n:=(by have:=HN.out;omega);simp only[e]at h;exact h
    have hdif:((((s[n]'hss).toNat:Nat):Int) !=(((E[n]'hee).toNat:Nat):Int))=true:=by simp;omega
    have HI:=yH (fun (k:Nat) (W:World)=>(show Calls Tryz.prog 169 #[.string (s.extract k s.size),.int .u8 (((E[n]'hee).toNat:Nat):Int)] W fun e w'=>e= .returned (.int .i64 (-1))∧w'=W by
      refine(Tryz.strings_IndexByte _ _ _).mono ?_;rintro e w' ⟨rfl,rfl⟩;rw[indexByte_not]
      · exact⟨rfl,rfl⟩
      · intro b hb e
        have h1:=HR.out b (extract_mem hb)
        have h2:b.toNat=(E[n]'hee).toNat:=by
          rw[e];have:=UInt8.toNat_lt (E[n]'hee);simp
        omega))
    obtain⟨m,hm⟩:∃m:Nat,m=n+1:=⟨_,rfl⟩
    have hwr:IntKind.i64.wrap ((n:Int)+1)=(m:Int):=by
      have e:(m:Int)=(n:Int)+1:=(by omega);rw[e];exact IntWalk.i64_in _ ⟨by omega,by omega⟩
    have hsl:(m:Int)≤(s.size:Int):=(by omega);have hs0:(0:Int)≤(m:Int):=(by omega);clear hm;clear hb1 hb2
    go_loopw [9] (fun i w'=>i= .int .i64 (n:Int)∧w'=w1) (fun _ _=>0)
    case atStart=>exact⟨rfl,rfl⟩
    case round=>
      obtain⟨rfl,rfl⟩:=hrel;go_wp2_with fail
      go_step3
      go_wp2_with fail
      go_quiet (fail)
      go_wp2_with fail
      go_quiet ((go_at_call 169;refine(HI.out _ _).mono ?_;rintro e w2 ⟨rfl,rfl⟩;exact⟨rfl,_,rfl⟩))
      go_wp2_with fail;rw[Exit.noGoto_ret];go_wp2_with fail;rw[Exit.noGoto_ret];go_wp2_with fail;go_ret;exact⟨rfl,rfl,rfl,rfl,Nat.le_refl _,fun _ _=>rfl⟩
  · go_loopw [9] (fun i w'=>i= .int .i64 (n:Int)∧w'=w1) (fun _ _=>0)
    case atStart=>exact⟨rfl,rfl⟩
    case round=>
      obtain⟨rfl,rfl⟩:=hrel;go_wp2_with fail;go_ret;exact⟨rfl,Below.refl _ _⟩
theorem next_zero {xs:List Nat} (h:∀x∈xs,GoodL x):next xs=0↔xs= []:=by
  cases xs with
  |nil=>simp[next]
  |cons a r=>
    have:=(h a (by simp)).1;simp[next];omega
def zeroPart:Array Value:= #[.int .i64 0,.string ⟨#[]⟩,.string ⟨#[]⟩,.slice none 0 0,.bool false]
theorem new_block (w:World) (cs:Array Value) (t:TypeId):∀(j:Nat) (u:Value),cs.toList[j]? =some u→(w.alloc (.cells cs t)).drew.cell? ((⟨w.heap.size,0,none⟩:Addr).add j)=some u:=by
  intro j u hu;have h:(w.alloc (.cells cs t)).drew.heap[w.heap.size]? =some (.cells cs t (0,0)):=heap_alloc_new w _;exact World.news_of_block h j u hu
theorem bytes_append (a b:List UInt8):(⟨a.toArray⟩:ByteArray)++⟨b.toArray⟩=⟨(a++b).toArray⟩:=by
  apply ByteArray.ext;rw[ByteArray.data_append];simp
theorem bytes_size (a:List UInt8):(⟨a.toArray⟩:ByteArray).size=a.length:=by simp[ByteArray.size]
theorem rowCells_set (ps:List Pt) (vs:List Value) (p:Pt) (u:Value) (t:List UInt8) (hl:ps.length=vs.length):
    (rowCells (ps++ [p]) (vs++ [u])).set (ps.length*5+1) (txt t)=rowCells (ps++ [{ p with text:=t }]) (vs++ [u]):=by
  rw[rowCells_append _ _ _ _ hl,rowCells_append _ _ _ _ hl,List.set_append_right _ _ (by rw[rowCells_length _ _ hl];omega),rowCells_length _ _ hl]
  congr 1
  rw[show ps.length*5+1-ps.length*5=1 by omega];rfl
theorem infoPart:(Tryz.prog.info? 113).map (fun i=>(i.zero,i.size,i.bytes))=some (some (.agg #[.int .i64 0,.string ⟨#[]⟩,.string ⟨#[]⟩,.slice none 0 0,.bool false]),5,72):=by kernel_rfl
theorem encode_good {c:Nat} (h:GoodL c):(.string (Utf8.encode (c:Int)):Value)=txt (enc [c]):=by
  have hv:=valid_good h
  have e:Utf8.encode (c:Int)=⟨(eb c).toArray⟩:=by
    have hc:(if Utf8.valid (c:Int)then (c:Int).toNat else Utf8.runeError)=c:=by rw[hv];rfl
    have e0:Utf8.encode (c:Int)=(if c<0x80 then⟨#[UInt8.ofNat c]⟩else if c<0x800 then⟨#[UInt8.ofNat (0xC0+c/64),UInt8.ofNat (0x80+c % 64)]⟩else if c<0x10000 then⟨#[UInt8.ofNat (0xE0+c/4096),UInt8.ofNat (0x80+c/64 % 64),UInt8.ofNat (0x80+c % 64)]⟩else ⟨#[UInt8.ofNat (0xF0+c/262144),UInt8.ofNat (0x80+c/4096 % 64),UInt8.ofNat (0x80+c/64 % 64),UInt8.ofNat (0x80+c % 64)]⟩):=by
      conv=>rhs;rw[←hc]
      rfl
    rw[e0];unfold eb
    by_cases k1:c<128
    · rw[if_pos k1,if_pos k1]
    · rw[if_neg k1,if_neg k1]
      by_cases k2:c<2048
      · rw[if_pos k2,if_pos k2]
      · rw[if_neg k2,if_neg k2]
        by_cases k3:c<65536
        · rw[if_pos k3,if_pos k3]
        · rw[if_neg k3,if_neg k3]
  rw[e];simp[txt,enc]
theorem five_cells {w:World} {k:Nat} {a b c d e:Value} {t:TypeId} {fr:Nat×Nat} (h:w.heap[k]? =some (.cells #[a,b,c,d,e] t fr)):
    w.cell? ⟨k,0,none⟩=some a∧w.cell? ⟨k,1,none⟩=some b∧w.cell? ⟨k,2,none⟩=some c∧w.cell? ⟨k,3,none⟩=some d∧w.cell? ⟨k,4,none⟩=some e:=by
  refine⟨?_,?_,?_,?_,?_⟩<;>simp[World.cell?,h]
theorem five_free {w:World} {k:Nat} {a b c d e:Value} {t:TypeId} (h:w.heap[k]? =some (.cells #[a,b,c,d,e] t (0,0))) (j:Nat):w.frozen? ⟨k,j,none⟩=false:=frozen_plain h j
theorem five_kept {D:Nat→Prop} {k:Nat} {w w':World} (hb:Kept D w w') (hk:D k∨w.heap.size≤k) (a b c d e:Value):Kept D w (((((w'.setCell ⟨k,0,none⟩ a).setCell ⟨k,1,none⟩ b).setCell ⟨k,2,none⟩ c).setCell ⟨k,3,none⟩ d).setCell ⟨k,4,none⟩ e):=
  ((((hb.setCell (p:=⟨k,0,none⟩) hk _).setCell (p:=⟨k,1,none⟩) hk _).setCell (p:=⟨k,2,none⟩) hk _).setCell (p:=⟨k,3,none⟩) hk _).setCell (p:=⟨k,4,none⟩) hk _
theorem five_put {w:World} {k:Nat} {x0 x1 x2 x3 x4:Value} {t:TypeId} (h:w.heap[k]? =some (.cells #[x0,x1,x2,x3,x4] t (0,0))) (a b c d e:Value):
    (((((w.setCell ⟨k,0,none⟩ a).setCell ⟨k,1,none⟩ b).setCell ⟨k,2,none⟩ c).setCell ⟨k,3,none⟩ d).setCell ⟨k,4,none⟩ e).heap[k]? =some (.cells #[a,b,c,d,e] t (0,0)):=
  heap_setCell_same _ k 4 _ t e (heap_setCell_same _ k 3 _ t d (heap_setCell_same _ k 2 _ t c (heap_setCell_same _ k 1 _ t b (heap_setCell_same w k 0 _ t a h))))
theorem part_info:(Tryz.prog.info? 113).map (·.size)=some 5:=by kernel_rfl
theorem load_part {w:World} {k:Nat} {a b c d e:Value} {t:TypeId} {fr:Nat×Nat} (h:w.heap[k]? =some (.cells #[a,b,c,d,e] t fr)):(loadVar 113 ⟨k,0,none⟩).run Tryz.prog w= .ok (.agg #[a,b,c,d,e]) w:=
  run_loadVar_row (P:=Tryz.prog) w k t 113 _ fr _ h Tryz.underlying113 rfl part_info
def zeroV:Value:= .slice none 0 0
theorem bytes_eb {c:Nat} (h:GoodL c):Utf8.encode (c:Int)=⟨(eb c).toArray⟩:=by
  have:=encode_good h
  simpa [txt,enc]using this
theorem asLetter_good {c:Nat} (h:GoodL c):asLetter (c:Int)=c:=by unfold asLetter;rw[valid_good h];rfl
theorem firstBad_eb {c:Nat} (h:GoodL c):firstBad ⟨(eb c).toArray⟩=none:=by
  rw[←bytes_eb h];have hs:=(encode_size (c:Int)).1;unfold firstBad;obtain⟨n,hn⟩:∃n,(Utf8.encode (c:Int)).size=n+1:=⟨(Utf8.encode (c:Int)).size-1,by omega⟩;rw[hn,badAt,if_pos (by omega)]
  have hb:bad (Utf8.encode (c:Int)) 0=false:=by
    unfold bad;rw[decode_encode,asLetter_good h]
    have h0:(c==0)=false:=by
      have:=h.1;have:¬c=0:=(by omega)
      simpa using this
    rw[h0,Bool.false_or]
    by_cases hc:c=65533
    · subst hc;rfl
    · have:(c==65533)=false:=by simpa using hc
      rw[this];rfl
  rw[hb,decode_encode];exact badAt_end _ _ _ (by simp only;omega)
theorem letters_enc:∀(l:List Nat),(∀c∈l,GoodL c)→letters ⟨(enc l).toArray⟩=l
  | [],_=>rfl
  |c::r,h=>by
    have hc:=h c (by simp);have ih:=letters_enc r fun x hx=>h x (List.mem_cons_of_mem _ hx);have e:(⟨(enc (c::r)).toArray⟩:ByteArray)=⟨(eb c).toArray⟩++⟨(enc r).toArray⟩:=(by rw[bytes_append];rfl);rw[e,letters_append _ _ (firstBad_eb hc),ih,←bytes_eb hc,letters_encode,asLetter_good hc];rfl
def ZB:Obj:= .cells #[.int .i64 0,.string ⟨#[]⟩,.string ⟨#[]⟩,.slice none 0 0,.bool false] 113
theorem WordN.shape {w:World} {B:Nat} {v:Value} {ps:List Pt} (h:WordN w B v ps):∃a c,v= .slice a ps.length c:=by
  obtain⟨F,h,_⟩:=h
  cases h with
  |row _ _ vs h1 _ _ _=>
    rcases h1.2 with ⟨hv,h0⟩|⟨g,cap,cur,hv,_⟩
    · exact⟨none,0,by rw[hv,h0]⟩
    · exact⟨_,_,hv⟩
theorem eb_len (r:Nat):(eb r).length=if r<128 then 1 else if r<2048 then 2 else if r<65536 then 3 else 4:=by
  unfold eb
  repeat' split
  all_goals first|rfl|omega
set_option maxHeartbeats 4000000 in
theorem decN_good (n b0 b1 b2 b3 r d:Nat) (hb:b0<256) (he:Lib.decodeN n b0 b1 b2 b3=(r,d)) (h0:¬(r=65533∧d=1)) (h1:r≠0):GoodL r∧d=(eb r).length:=by
  rw[eb_len];unfold GoodL;unfold Lib.decodeN at he
  split at he
  · obtain⟨rfl,rfl⟩:=Prod.mk.inj he
    refine⟨⟨by omega,by omega,by omega⟩,?_⟩;rw[if_pos (by assumption)]
  · split at he
    · split at he
      · obtain⟨rfl,rfl⟩:=Prod.mk.inj he
        refine⟨⟨by omega,by omega,by omega⟩,?_⟩;rw[if_neg (by omega),if_pos (by omega)]
      · obtain⟨rfl,rfl⟩:=Prod.mk.inj he
        exact absurd ⟨rfl,rfl⟩ h0
    · split at he
      · split at he
        · obtain⟨rfl,rfl⟩:=Prod.mk.inj he
          refine⟨⟨by omega,by omega,by omega⟩,?_⟩;rw[if_neg (by omega),if_neg (by omega),if_pos (by omega)]
        · obtain⟨rfl,rfl⟩:=Prod.mk.inj he
          exact absurd ⟨rfl,rfl⟩ h0
      · split at he
        · split at he
          · obtain⟨rfl,rfl⟩:=Prod.mk.inj he
            refine⟨⟨by omega,by omega,by omega⟩,?_⟩;rw[if_neg (by omega),if_neg (by omega),if_neg (by omega)]
          · obtain⟨rfl,rfl⟩:=Prod.mk.inj he
            exact absurd ⟨rfl,rfl⟩ h0
        · obtain⟨rfl,rfl⟩:=Prod.mk.inj he
          exact absurd ⟨rfl,rfl⟩ h0
theorem dec_good (s:ByteArray) (i:Nat) (hb:bad s i=false):GoodL (Utf8.decode s i).1∧(Utf8.decode s i).2=(eb (Utf8.decode s i).1).length:=by
  have h0:=not_bad hb;have h1:(Utf8.decode s i).1≠0:=fun e=>(by simp[bad,e]at hb);exact decN_good (s.size-i) (s.get! i).toNat (s.get! (i+1)).toNat (s.get! (i+2)).toNat (s.get! (i+3)).toNat _ _ (UInt8.toNat_lt _) (by rw[←Lib.decode_at]) h0 h1
theorem rest_text (s:ByteArray):∀n i,s.size-i≤n→i≤s.size→badFrom s i=none→(enc (rest s i)).length=s.size-i∧∀c∈rest s i,GoodL c
  |0,i,hn,hi,_=>by
    rw[rest_end s i (by omega)];exact⟨by simp[enc];omega,fun c hc=>by cases hc⟩
  |n+1,i,hn,hi,hb=>by
    by_cases h:i<s.size
    · rw[badFrom_step s i h]at hb
      cases hbd:bad s i with
      |true=>rw[hbd]at hb;simp at hb
      |false=>
        rw[hbd]at hb;have hb':badFrom s (i+(Utf8.decode s i).2)=none:=(by simpa using hb);obtain⟨g1,g2⟩:=dec_good s i hbd;have w1:=width_pos s i h;have w2:=width_le s i h;obtain⟨k1,k2⟩:=rest_text s n (i+(Utf8.decode s i).2) (by omega) (by omega) hb';rw[rest_step s i h];refine⟨?_,fun c hc=> ?_⟩
        · rw[enc,List.length_append,k1,←g2];omega
        · rcases List.mem_cons.1 hc with rfl|hc
          · exact g1
          · exact k2 c hc
    · rw[rest_end s i h]
      exact⟨by simp[enc];omega,fun c hc=>by cases hc⟩
theorem text_none {s:ByteArray} (h:isText s=true):firstBad s=none:=by
  unfold isText at h
  simpa using h
theorem text_good {s:ByteArray} (h:isText s=true):(enc (letters s)).length=s.size∧∀c∈letters s,GoodL c:=by
  have:=rest_text s s.size 0 (by omega) (by omega) (text_none h)
  rwa [rest_zero]at this
theorem four_kept {D:Nat→Prop} {k:Nat} {w w':World} (hb:Kept D w w') (hk:D k∨w.heap.size≤k) (a b c d:Value):Kept D w ((((w'.setCell ⟨k,0,none⟩ a).setCell ⟨k,1,none⟩ b).setCell ⟨k,2,none⟩ c).setCell ⟨k,3,none⟩ d):=
  (((hb.setCell (p:=⟨k,0,none⟩) hk _).setCell (p:=⟨k,1,none⟩) hk _).setCell (p:=⟨k,2,none⟩) hk _).setCell (p:=⟨k,3,none⟩) hk _
theorem sign_less:∀(l:List (List Nat)) (xs p r:List Nat),(∀q∈l,q≠ [])→signM l xs=some (p,r)→Less xs r
  | [],_,_,_,_,h=>by cases h
  |q::l,xs,p,r,hl,h=>by
    rw[signM]at h
    cases ht:takes q xs with
    |some ys=>rw[ht]at h;cases h;exact takes_less ht (hl q (by simp))
    |none=>rw[ht]at h;exact sign_less l xs p r (fun q' hq=>hl q' (List.mem_cons_of_mem _ hq)) h
theorem sign_none:∀(l:List (List Nat)) (xs:List Nat) (c:Nat),signM l xs=none→ [c]∈l→next xs≠c∨xs= []
  | [],_,_,_,h=>by cases h
  |q::l,xs,c,h,hm=>by
    rw[signM]at h
    cases ht:takes q xs with
    |some ys=>rw[ht]at h;cases h
    |none=>
      rw[ht]at h
      rcases List.mem_cons.1 hm with rfl|hm
      · rw[takes_one]at ht
        by_cases e:next xs=c∧xs≠ []
        · rw[if_pos e]at ht;cases ht
        · by_cases e1:xs= []
          · exact .inr e1
          · exact .inl fun e2=>e ⟨e2,e1⟩
      · exact sign_none l xs c h hm
theorem word_less {xs r:List Nat} {ps:List Pt} (hg:∀c∈xs,GoodL c) (hx:xs≠ []) (hs:signM signs xs=none) (ha:next xs≠38) (h32:next xs≠32) (h9:next xs≠9) (h:partsM 20 xs= .ok (ps,r)):Less xs r:=by
  have hn:∀c,[c]∈signs→next xs≠c:=fun c hc=>(sign_none signs xs c hs hc).resolve_right hx
  have e:ends (next xs) (decide (19<19))=false:=by
    have h1:=hn 59 (by decide);have h2:=hn 124 (by decide);have h3:=hn 40 (by decide);have h4:=hn 41 (by decide);have h5:=hn 60 (by decide);have h6:=hn 62 (by decide);have h7:=hn 10 (by decide);have hb:blankR (next xs:Int)=false:=(by unfold blankR;simp;omega);show(blankR (next xs:Int)||(next xs==59||next xs==38||next xs==124||next xs==40||next xs==41||next xs==60||next xs==62))=false;rw[hb];simp[h1,h2,h3,h4,h5,h6,ha]
  have h0:next xs≠0:=fun e0=>hx ((next_zero hg).1 e0);have hb:=braces_ok (parts_ok 19) false;have h':partsL (bracesM false (partsM 19)) (decide (19<19)) (xs.length+1) xs []= .ok (ps,r):=h;rw[partsL,if_neg (by rintro(h1|h1);exact h0 h1;rw[e]at h1;cases h1)]at h'
  cases hp:partM (bracesM false (partsM 19)) (decide (19<19)) xs []with
  |error c=>rw[hp]at h';cases h'
  |ok a=>
    obtain⟨ps',xs'⟩:=a;rw[hp]at h';simp only at h';exact(part_less hb hp h0 e).1.suf (partsL_suf hb _ _ _ _ _ h')
theorem token_less {n:Nat} {xs r:List Nat} {t:Tk} (hg:∀c∈xs,GoodL c) (hx:xs≠ []) (h32:next xs≠32) (h9:next xs≠9) (h:tokenM n xs= .ok (t,r)):Less xs r∧t.kind≠3:=by
  unfold tokenM at h
  cases hs:signM signs xs with
  |some a=>
    obtain⟨p,r'⟩:=a;rw[hs]at h
    cases h
    exact⟨sign_less signs _ _ _ (by decide) hs,by simp⟩
  |none=>
    rw[hs]at h;simp only at h
    by_cases ha:next xs=38
    · rw[if_pos ha]at h;cases h
    · rw[if_neg ha]at h
      cases hp:partsM 20 xs with
      |error c=>rw[hp]at h;cases h
      |ok a=>
        obtain⟨ps,r'⟩:=a;rw[hp]at h
        cases h
        exact⟨word_less hg hx hs ha h32 h9 hp,by simp⟩
def tcells (t:Tk) (u:Value):List Value:= [.int .i64 t.kind,txt t.text,u,.int .i64 (t.at_:Int)]
def tokCells:List Tk→List Value→List Value
  |t::ts,u::us=>tcells t u++tokCells ts us
  |_,_=> []
theorem tokCells_append:∀(ts:List Tk) (us:List Value) (qs:List Tk) (vs:List Value),ts.length=us.length→tokCells (ts++qs) (us++vs)=tokCells ts us++tokCells qs vs
  | [],[],_,_,_=>rfl
  |t::ts,u::us,qs,vs,h=>by
    simp only[List.cons_append,tokCells,tokCells_append ts us qs vs (by simpa using h),List.append_assoc]
  | [],_::_,_,_,h=>by simp at h
  |_::_,[],_,_,h=>by simp at h
structure TokO (w:World) (B X:Nat) (v:Value) (us:List Value) (F:Nat→Prop) (ts:List Tk):Prop where
  own:w.ownsRow B 72 4 v ts.length (tokCells ts us)
  len:ts.length=us.length
  sub:∀(j:Nat) (t:Tk) (u:Value),ts[j]? =some t→us[j]? =some u→WordV w F u t.word
  far:∀g,F g→B≤g∧g<w.heap.size∧g≠X∧v.ownBlock≠some g
  ne:v.ownBlock≠some X
theorem TokO.kept {D:Nat→Prop} {w w':World} {B X:Nat} {v:Value} {us:List Value} {F:Nat→Prop} {ts:List Tk} (h:TokO w B X v us F ts) (hk:Kept D w w') (hD:∀k,B≤k→k<w.heap.size→k≠X→¬D k):TokO w' B X v us F ts where
  own:=ownsRow_same h.own fun g hg=>hk.block g (World.ownsRow.lt h.own g hg).2 (hD g (World.ownsRow.lt h.own g hg).1 (World.ownsRow.lt h.own g hg).2 fun e=>h.ne (by rw[hg,e]))
  len:=h.len
  sub:=fun j t u ht hu=>(h.sub j t u ht hu).same fun g hg=>hk.block g (h.far g hg).2.1 (hD g (h.far g hg).1 (h.far g hg).2.1 (h.far g hg).2.2.1)
  far:=fun g hg=>⟨(h.far g hg).1,Nat.lt_of_lt_of_le (h.far g hg).2.1 hk.size,(h.far g hg).2.2⟩
  ne:=h.ne
theorem TokO.shape {w:World} {B X:Nat} {v:Value} {us:List Value} {F:Nat→Prop} {ts:List Tk} (h:TokO w B X v us F ts):∃a c,v= .slice a ts.length c:=by
  rcases h.own.2 with ⟨hv,h0⟩|⟨g,cap,cur,hv,_⟩
  · exact⟨none,0,by rw[hv,h0]⟩
  · exact⟨_,_,hv⟩
theorem TokO.nil (w:World) (B X:Nat):TokO w B X (.slice none 0 0) [] (fun _=>False) []:=
  ⟨World.ownsRow_nil _ _ _ _,rfl,fun _ _ _ h=>by simp at h,fun _ h=>h.elim,by simp[Value.ownBlock]⟩
theorem TokO.add {w0 w1:World} {B X C g cap:Nat} {v u:Value} {us:List Value} {F:Nat→Prop} {ts:List Tk} {t:Tk} {o:Obj} (h:TokO w0 B X v us F ts) (hX:X<w0.heap.size) (hC:WordN w0 C u t.word) (hBC:B≤C) (hXC:X<C) (hvC:∀g,v.ownBlock=some g→g<C)
    (hown:w1.ownsRow B 72 4 (.slice (some ⟨g,0,none⟩) (ts.length+1) cap) (ts.length+1) (tokCells ts us++tcells t u)) (hgrow:(w0.alloc o).grownBy w1 v.ownBlock) (hat:v.ownBlock=some g∨g=w0.heap.size+1):
    ∃F',TokO w1 B X (.slice (some ⟨g,0,none⟩) (ts.length+1) cap) (us++ [u]) F' (ts++ [t]):=by
  obtain⟨F2,c1,c2⟩:=hC;have hsz:(w0.alloc o).heap.size=w0.heap.size+1:=(by simp);have hs1:=hgrow.size;rw[hsz]at hs1;have hold:∀j,j<w0.heap.size→v.ownBlock≠some j→w1.heap[j]? =w0.heap[j]? :=fun j hj hn=>(hgrow.block j (by rw[hsz];omega) (fun e=>hn e.symm)).trans (Below.heap_alloc _ _ _ hj);have hg:∀i,i<w0.heap.size→v.ownBlock≠some i→g≠i:=fun i hi hn e=>hat.elim (fun e2=>hn (by rw[e2,e])) fun e2=>(by omega);refine⟨fun j=>F j∨F2 j,{ own:= ?_,len:=by simp[h.len],sub:=fun j q x hq hx=> ?_,far:=fun j hj=> ?_,ne:=fun e=> ?_ }⟩
  · rw[tokCells_append _ _ _ _ h.len]
    simpa [tokCells]using hown
  · rcases Nat.lt_or_ge j ts.length with hj|hj
    · rw[List.getElem?_append_left hj]at hq
      rw[List.getElem?_append_left (by rw[←h.len];exact hj)]at hx;exact((h.sub j q x hq hx).same fun i hi=>hold i (h.far i hi).2.1 (h.far i hi).2.2.2).mono fun i hi=> .inl hi
    · rw[List.getElem?_append_right hj]at hq
      rw[List.getElem?_append_right (by rw[←h.len];exact hj)]at hx;obtain⟨hj0,hq0⟩:=List.getElem?_eq_some_iff.1 hq;obtain⟨_,hx0⟩:=List.getElem?_eq_some_iff.1 hx;simp only[List.length_singleton]at hj0;simp only[List.getElem_singleton]at hq0 hx0;subst hq0 hx0;exact(c1.same fun i hi=>hold i (c2 i hi).2 (fun e=>by have:=hvC i e;have:=(c2 i hi).1;omega)).mono fun i hi=> .inr hi
  · rcases hj with hj|hj
    · obtain⟨a1,a2,a3,a4⟩:=h.far j hj
      exact⟨a1,by omega,a3,fun e=>hg j a2 a4 (by simpa [Value.ownBlock]using e)⟩
    · obtain⟨a1,a2⟩:=c2 j hj
      exact⟨by omega,by omega,by omega,fun e=>hg j a2 (fun e2=>by have:=hvC j e2;omega) (by simpa [Value.ownBlock]using e)⟩
  · exact hg X hX h.ne (by simpa [Value.ownBlock]using e)
def TksEnd (w w':World) (e:Ending) (sz:Nat) (m:Except (Nat×Nat) (List Tk)):Prop:=
  match m with
  | .ok ts=> ∃v X us F,e= .returned (.tuple #[v,.int .i64 (sz:Int),.int .i64 0])∧TokO w' w.heap.size X v us F ts∧Below w.heap.size w w'
  | .error (n,c)=>(c=2∨c=3)∧e= .returned (.tuple #[zeroV,.int .i64 (n:Int),.int .i64 (c:Int)])∧Below w.heap.size w w'
theorem infoTok:(Tryz.prog.info? 72).map (fun i=>(i.zero,i.size,i.bytes))=some (some (.agg #[.int .i64 0,.string ⟨#[]⟩,.slice none 0 0,.int .i64 0]),4,56):=by kernel_rfl
theorem below_kept {D:Nat→Prop} {w w1 w2:World} {B:Nat} (h:Below B w w1) (k:Kept D w1 w2) (hD:∀i,D i→B≤i) (hB:B≤w1.heap.size):Below B w w2:=
  h.trans ⟨k.os,k.tape,k.output,k.size,fun i hi=>k.block i (by omega) fun hd=>by have:=hD i hd;omega⟩
theorem tokensL_end {sz f:Nat} {xs:List Nat} {l:List Tk} (h:skipM xs= []):tokensL sz (f+1) xs l= .ok (l++ [⟨3,[],[],sz⟩]):=by rw[tokensL,if_pos h]
theorem tokensL_bad {sz f c:Nat} {xs:List Nat} {l:List Tk} (h:skipM xs≠ []) (ht:tokenM (sz-(enc (skipM xs)).length) (skipM xs)= .error c):tokensL sz (f+1) xs l= .error (sz-(enc (skipM xs)).length,c):=by rw[tokensL,if_neg h,ht]
theorem tokensL_go {sz f:Nat} {xs r:List Nat} {l:List Tk} {t:Tk} (h:skipM xs≠ []) (ht:tokenM (sz-(enc (skipM xs)).length) (skipM xs)= .ok (t,r)):tokensL sz (f+1) xs l=tokensL sz f r (l++ [t]):=by rw[tokensL,if_neg h,ht]
theorem tok_append {ops:Array Oper} {rest:List Oper} {o:Oper} {a:Act} {Q:Exit→Act→World→Prop} {W:World} (hgd:o.guard=none) (s x:Operand)
    (ho:o.op= .call { callee:= .builtin .append,args:= #[s,x],argTypes:= #[49,49] }) (base:Nat) (v:Value) (k:Nat) (xs:List Value) (hs:a.eval s=v)
    (hown:W.ownsRow base 72 4 v k xs) (ad:Addr) (u1 u2 u3 u4:Value) (hx:a.eval x= .slice (some ad) 1 1) (hnews:∀(j:Nat) (u:Value),[u1,u2,u3,u4][j]? =some u→W.cell? (ad.add j)=some u)
    (h1:∀u∈ [u1,u2,u3,u4],u.oneCell'=true) (hk:k≤4000) (hbase:base≤W.heap.size) (H:Nat) (hH:W.heap.size=H)
    (h:∀g cap w',w'.ownsRow base 72 4 (.slice (some ⟨g,0,none⟩) (k+1) cap) (k+1) (xs++ [u1,u2,u3,u4])→W.grownBy w' v.ownBlock→(v.ownBlock=some g∨g=H)→g<w'.heap.size→wpList Tryz.prog ops Q rest (a.put o.dst (.slice (some ⟨g,0,none⟩) (k+1) cap)) w'):
    wpList Tryz.prog ops Q (o::rest) a W:=by
  obtain⟨i0,hi,hz0,hz1,hz2⟩:=info_parts infoTok
  exact wpList_append_lies W hgd s x 49 ho base 72 i0 (.agg #[.int .i64 0,.string ⟨#[]⟩,.slice none 0 0,.int .i64 0]) 4 56 Tryz.underlying49 hi hz0 hz1 hz2 rfl (by decide)
    v k xs hs hown ad 1 1 [u1,u2,u3,u4] hx rfl hnews h1 (by decide) (by unfold maxLen;omega) (by omega) hbase H hH h
theorem tokCells_get:∀(ts:List Tk) (us:List Value) (j:Nat) (t:Tk) (u:Value),ts[j]? =some t→us[j]? =some u→ts.length=us.length→∀i,i<4→(tokCells ts us)[j*4+i]? =(tcells t u)[i]?
  | [],_,_,_,_,h,_,_,_,_=>by simp at h
  |_::_,[],_,_,_,_,h,_,_,_=>by simp at h
  |a::ts,b::us,0,t,u,h1,h2,_,i,hi=>by
    simp only[List.getElem?_cons_zero,Option.some.injEq]at h1 h2;subst h1 h2;rw[tokCells,Nat.zero_mul,Nat.zero_add,List.getElem?_append_left (by simp[tcells];omega)]
  |a::ts,b::us,j+1,t,u,h1,h2,hl,i,hi=>by
    simp only[List.getElem?_cons_succ]at h1 h2;rw[tokCells,show(j+1)*4+i=4+(j*4+i) by omega,List.getElem?_append_right (by simp[tcells])]
    simpa [tcells]using tokCells_get ts us j t u h1 h2 (by simpa using hl) i hi
def TokC (w:World) (p:Option Addr) (k:Nat) (kind:Int) (T:ByteArray) (wv:Value) (a:Nat):Prop:=∃b o,p=some ⟨b,o,none⟩∧
  w.cell? ⟨b,o+k*4,none⟩=some (.int .i64 kind)∧w.cell? ⟨b,o+k*4+1,none⟩=some (.string T)∧w.cell? ⟨b,o+k*4+2,none⟩=some wv∧w.cell? ⟨b,o+k*4+3,none⟩=some (.int .i64 (a:Int))
theorem TokC.below {w w':World} {p:Option Addr} {k:Nat} {kind:Int} {T:ByteArray} {wv:Value} {a:Nat} (h:TokC w p k kind T wv a) (hb:Below w.heap.size w w'):TokC w' p k kind T wv a:=by
  obtain⟨b,o,hp,h0,h1,h2,h3⟩:=h;have lt:∀ {a:Addr} {v:Value},w.cell? a=some v→a.block<w.heap.size:=fun h=>World.block_lt_of_cell? w _ h;exact⟨b,o,hp,by rw[hb.cell (p:=⟨b,_,none⟩) (lt h0)];exact h0,by rw[hb.cell (p:=⟨b,_,none⟩) (lt h1)];exact h1,by rw[hb.cell (p:=⟨b,_,none⟩) (lt h2)];exact h2,by rw[hb.cell (p:=⟨b,_,none⟩) (lt h3)];exact h3⟩
theorem TokO.at {w:World} {B X:Nat} {v:Value} {us:List Value} {F:Nat→Prop} {ts:List Tk} (h:TokO w B X v us F ts):
    ∃p c,v= .slice p ts.length c∧∀k (t:Tk),ts[k]? =some t→∃u,us[k]? =some u∧WordV w F u t.word∧TokC w p k t.kind ⟨t.text.toArray⟩ u t.at_:=by
  have hl:=h.len;have hs:=h.sub
  rcases h.own.2 with ⟨rfl,h0⟩|⟨g,cap,cur,rfl, -⟩
  · exact⟨none,0,by rw[h0],fun k q hq=>by
      have:=(List.getElem?_eq_some_iff.1 hq).1
      omega⟩
  · have hc:=h.own.cellAt
    refine⟨some ⟨g,0,none⟩,cap,rfl,fun k t ht=> ?_⟩;have hk:=(List.getElem?_eq_some_iff.1 ht).1;obtain⟨u,hu⟩:∃u,us[k]? =some u:=⟨_,List.getElem?_eq_getElem (by rw[←hl];exact hk)⟩;refine⟨u,hu,hs k t u ht hu,g,0,rfl,?_⟩;have hx:=fun i (hi:i<4)=>(hc (k*4+i) (by omega)).trans (tokCells_get ts us k t u ht hu hl i hi);refine⟨?_,?_,?_,?_⟩
    · simpa [tcells,txt]using hx 0 (by omega)
    · simpa [Nat.add_assoc,tcells,txt]using hx 1 (by omega)
    · simpa [Nat.add_assoc,tcells,txt]using hx 2 (by omega)
    · simpa [Nat.add_assoc,tcells,txt]using hx 3 (by omega)
end Go.Proofs.YtakceggnadagmaaGreatDoor
namespace Go.Proofs.YtakceggnadagmaaGreatDoor
open Go Go.RowKit GlyphMath LexMath TreeMath ParseMath
def Stays (w0 w:World) (F:Nat→Prop) (P:World→Prop):Prop:=∀w',Below w0.heap.size w0 w'→(∀k,F k→w'.heap[k]? =w.heap[k]?)→P w'
theorem Stays.now {w0 w:World} {F:Nat→Prop} {P:World→Prop} (h:Stays w0 w F P) (hb:Below w0.heap.size w0 w):P w:=h w hb fun _ _=>rfl
theorem Stays.same {w0 w w':World} {F:Nat→Prop} {P:World→Prop} (h:Stays w0 w F P) (hk:∀k,F k→w'.heap[k]? =w.heap[k]?):Stays w0 w' F P:=fun x hx hf=>h x hx fun k hF=>(hf k hF).trans (hk k hF)
theorem Stays.mono {w0 w:World} {F F':Nat→Prop} {P:World→Prop} (h:Stays w0 w F P) (hF:∀k,F k→F' k):Stays w0 w F' P:=fun x hx hf=>h x hx fun k hk=>hf k (hF k hk)
theorem Stays.imp {w0 w:World} {F:Nat→Prop} {P Q:World→Prop} (h:Stays w0 w F P) (hP:∀w',P w'→Q w'):Stays w0 w F Q:=fun x hx hf=>hP x (h x hx hf)
theorem Stays.of0 {w0 w:World} {P:World→Prop} (h:∀w',Below w0.heap.size w0 w'→P w'):Stays w0 w (fun _=>False) P:=fun x hx _=>h x hx
def NewAt (w0 w:World) (B:Nat) (P:World→Prop):Prop:=∃F,(∀k,F k→B≤k∧k<w.heap.size)∧Stays w0 w F P
theorem NewAt.kept {D:Nat→Prop} {w0 w w':World} {B:Nat} {P:World→Prop} (h:NewAt w0 w B P) (hk:Kept D w w') (hD:∀k,B≤k→k<w.heap.size→¬D k):NewAt w0 w' B P:=by
  obtain⟨F,h1,h2⟩:=h;exact⟨F,fun k hF=>⟨(h1 k hF).1,Nat.lt_of_lt_of_le (h1 k hF).2 hk.size⟩,h2.same fun k hF=>hk.block k (h1 k hF).2 (hD k (h1 k hF).1 (h1 k hF).2)⟩
theorem NewAt.base {w0 w:World} {B C:Nat} {P:World→Prop} (h:NewAt w0 w B P) (hC:C≤B):NewAt w0 w C P:=by
  obtain⟨F,h1,h2⟩:=h;exact⟨F,fun k hF=>⟨Nat.le_trans hC (h1 k hF).1,(h1 k hF).2⟩,h2⟩
theorem NewAt.imp {w0 w:World} {B:Nat} {P Q:World→Prop} (h:NewAt w0 w B P) (hP:∀w',P w'→Q w'):NewAt w0 w B Q:=by
  obtain⟨F,h1,h2⟩:=h;exact⟨F,h1,h2.imp hP⟩
theorem NewAt.now {w0 w:World} {B:Nat} {P:World→Prop} (h:NewAt w0 w B P) (hb:Below w0.heap.size w0 w):P w:=by
  obtain⟨F,h1,h2⟩:=h;exact h2.now hb
theorem NewAt.of0 {w0 w:World} {B:Nat} {P:World→Prop} (h:∀w',Below w0.heap.size w0 w'→P w'):NewAt w0 w B P:=⟨fun _=>False,fun _ h=>h.elim,Stays.of0 h⟩
theorem NewAt.and {w0 w:World} {B:Nat} {P Q:World→Prop} (h:NewAt w0 w B P) (k:NewAt w0 w B Q):NewAt w0 w B fun W=>P W∧Q W:=by
  obtain⟨F,h1,h2⟩:=h;obtain⟨G,k1,k2⟩:=k;exact⟨fun x=>F x∨G x,fun x hx=>hx.elim (h1 x) (k1 x),fun x hx hf=>⟨h2 x hx fun i hi=>hf i (.inl hi),k2 x hx fun i hi=>hf i (.inr hi)⟩⟩
def Cel (n:Nat) (c:List Value):Prop:=c.length=n∧∀v∈c,v.oneCell'=true
structure RowG (w0 w:World) (e sz:Nat) {α:Type} (P:World→List Value→α→Prop) (B:Nat) (v:Value) (css:List (List Value)) (l:List α) (F:Nat→Prop):Prop where
  own:w.ownsRow B e sz v l.length css.flatten
  len:css.length=l.length
  each:∀cs∈css,Cel sz cs
  sub:∀(k:Nat) (cs:List Value) (x:α),css[k]? =some cs→l[k]? =some x→Stays w0 w F fun W=>P W cs x
  far:∀k,F k→B≤k∧k<w.heap.size∧v.ownBlock≠some k
section
variable {w0 w : World} {e sz : Nat} {α : Type} {P : World → List Value → α → Prop} {B : Nat} {v : Value} {css : List (List Value)} {l : List α} {F : Nat → Prop}
theorem RowG.nil (w0 w:World) (e sz:Nat) {α:Type} (P:World→List Value→α→Prop) (B:Nat):RowG w0 w e sz P B (.slice none 0 0) [] ([]:List α) (fun _=>False):=
  ⟨World.ownsRow_nil _ _ _ _,rfl,fun _ h=>(List.not_mem_nil h).elim,fun _ _ _ h=>(by simp at h),fun _ h=>h.elim⟩
theorem RowG.lt (h:RowG w0 w e sz P B v css l F):∀k,F k∨v.ownBlock=some k→B≤k∧k<w.heap.size:=fun k hk=>hk.elim (fun hk=>⟨(h.far k hk).1,(h.far k hk).2.1⟩) fun hk=>World.ownsRow.lt h.own k hk
theorem RowG.kept {D:Nat→Prop} {w':World} (h:RowG w0 w e sz P B v css l F) (hk:Kept D w w') (hD:∀k,F k∨v.ownBlock=some k→¬D k):RowG w0 w' e sz P B v css l F where
  own:=ownsRow_same h.own fun g hg=>hk.block g (World.ownsRow.lt h.own g hg).2 (hD g (.inr hg))
  len:=h.len
  each:=h.each
  sub:=fun k cs x h1 h2=>(h.sub k cs x h1 h2).same fun i hi=>hk.block i (h.far i hi).2.1 (hD i (.inl hi))
  far:=fun k hF=>⟨(h.far k hF).1,Nat.lt_of_lt_of_le (h.far k hF).2.1 hk.size,(h.far k hF).2.2⟩
theorem RowG.shape (h:RowG w0 w e sz P B v css l F):∃a c,v= .slice a l.length c:=by
  rcases h.own.2 with ⟨hv,h0⟩|⟨g,cap,cur,hv,_⟩
  · exact⟨none,0,by rw[hv,h0]⟩
  · exact⟨_,_,hv⟩
theorem flat_len {css:List (List Value)} {sz:Nat} (h:∀cs∈css,Cel sz cs):css.flatten.length=css.length*sz:=by
  induction css with
  |nil=>simp
  |cons a r ih=>
    rw[List.flatten_cons,List.length_append,(h a (by simp)).1,ih fun cs hc=>h cs (by simp[hc]),List.length_cons,Nat.succ_mul];omega
theorem flat_get {css:List (List Value)} {sz:Nat} (h:∀cs∈css,Cel sz cs):∀(k:Nat) (cs:List Value),css[k]? =some cs→∀i,i<sz→css.flatten[k*sz+i]? =cs[i]? :=by
  induction css with
  |nil=>intro k cs hk;simp at hk
  |cons a r ih=>
    intro k cs hk i hi;have ha:=(h a (by simp)).1
    cases k with
    |zero=>
      simp only[List.getElem?_cons_zero,Option.some.injEq]at hk;subst hk;rw[List.flatten_cons,Nat.zero_mul,Nat.zero_add,List.getElem?_append_left (by omega)]
    |succ k=>
      rw[List.flatten_cons,show(k+1)*sz+i=a.length+(k*sz+i) by rw[ha,Nat.succ_mul];omega,List.getElem?_append_right (by omega),Nat.add_sub_cancel_left];exact ih (fun cs hc=>h cs (by simp[hc])) k cs (by simpa using hk) i hi
theorem RowG.spot (h:RowG w0 w e sz P B v css l F) {k:Nat} {cs:List Value} (hk:css[k]? =some cs):∃g c,v= .slice (some ⟨g,0,none⟩) l.length c∧∀i u,cs[i]? =some u→w.cell? ⟨g,k*sz+i,none⟩=some u:=by
  obtain⟨hk1,hk2⟩:=List.getElem?_eq_some_iff.1 hk
  rcases h.own.2 with ⟨_,h0⟩|⟨g,cap,cur,hv,_⟩
  · have:=h.len;omega
  · refine⟨g,cap,hv,fun i u hu=> ?_⟩
    subst hv;have hc:=h.each cs (List.mem_of_getElem? hk);have hi:i<sz:=(by have:=(List.getElem?_eq_some_iff.1 hu).1;rw[hc.1]at this;exact this);rw[World.ownsRow.cellAt h.own _ (by have:=h.len;have:=Nat.mul_le_mul_right sz (show k+1≤l.length by omega);rw[Nat.succ_mul]at this;omega),flat_get h.each k cs hk i hi];exact hu
theorem RowG.slat (h:RowG w0 w e sz P B v css l F):Stays w0 w (fun k=>F k∨v.ownBlock=some k) fun W=>(∃p c,v= .slice p l.length c∧∀(k:Nat) (cs:List Value),css[k]? =some cs→SpotAt W p k sz cs)∧∀(k:Nat) (cs:List Value) (x:α),css[k]? =some cs→l[k]? =some x→P W cs x:=by
  intro W hW hf
  have h':RowG w0 W e sz P B v css l F:= { h with
    own:=ownsRow_same h.own fun g hg=>hf g (.inr hg)
    sub:=fun k cs x h1 h2=>(h.sub k cs x h1 h2).same fun i hi=>hf i (.inl hi)
    far:=fun k hF=>⟨(h.far k hF).1,by
      have h1:=hf k (.inl hF);have h2:=(h.far k hF).2.1;rw[Array.getElem?_eq_getElem h2]at h1
      exact(gS.1 h1).1,(h.far k hF).2.2⟩ }
  refine⟨?_,fun k cs x h1 h2=>(h'.sub k cs x h1 h2).now hW⟩;obtain⟨p,c,hv⟩:=h.shape;refine⟨p,c,hv,fun k cs hk=> ?_⟩;obtain⟨g,c',hv',hc⟩:=h'.spot hk;rw[hv]at hv';simp only[Value.slice.injEq,true_and]at hv';exact⟨g,0,hv'.1,fun i u hu=>by rw[Nat.zero_add];exact hc i u hu⟩
theorem RowG.sl (h:RowG w0 w e sz P B v css l F) (hm:l.length≤maxLen):NewAt w0 w B fun W=>SlAt W sz α (fun x cs=>P W cs x) v l:=by
  refine⟨fun k=>F k∨v.ownBlock=some k,h.lt,h.slat.imp fun W hW=> ?_⟩;obtain⟨⟨p,c,hv,h1⟩,h2⟩:=hW;refine⟨⟨p,c,hv,fun k x hk=> ?_⟩,hm⟩;obtain⟨cs,hcs⟩:∃cs,css[k]? =some cs:=⟨_,List.getElem?_eq_getElem (by rw[h.len];exact(List.getElem?_eq_some_iff.1 hk).1)⟩;exact⟨cs,h1 k cs hcs,h2 k cs x hcs hk⟩
theorem RowG.nofar (h:RowG w0 w e sz P B v css l F) (hF:∀k,F k→False):RowG w0 w e sz P B v css l (fun _=>False):=
  { own:=h.own,len:=h.len,each:=h.each,sub:=fun k cs x h1 h2=>(h.sub k cs x h1 h2).mono fun i hi=>hF i hi,far:=fun _ hk=>hk.elim }
theorem RowG.add (h:RowG w0 w e sz P B v css l F) {C:Nat} {cs:List Value} {x:α} (hc:Cel sz cs) (hx:NewAt w0 w C fun W=>P W cs x) (hB:B≤C) (hv:∀k,v.ownBlock=some k→k<C)
    {w1 w2:World} (hk:Kept (fun _=>False) w w1) {g cap:Nat} (hown:w2.ownsRow B e sz (.slice (some ⟨g,0,none⟩) (l.length+1) cap) (l.length+1) (css.flatten++cs)) (hgrow:w1.grownBy w2 v.ownBlock) (hat:v.ownBlock=some g∨w.heap.size≤g):
    ∃F',RowG w0 w2 e sz P B (.slice (some ⟨g,0,none⟩) (l.length+1) cap) (css++ [cs]) (l++ [x]) F'∧(∀k,F' k→F k∨(C≤k∧k<w.heap.size)):=by
  obtain⟨F2,f1,f2⟩:=hx;have hold:∀j,j<w.heap.size→v.ownBlock≠some j→w2.heap[j]? =w.heap[j]? :=fun j hj hn=>(hgrow.block j (Nat.lt_of_lt_of_le hj hk.size) (fun e=>hn e.symm)).trans (hk.block j hj (fun h=>h));have hs:w.heap.size≤w2.heap.size:=Nat.le_trans hk.size hgrow.size
  have hne:∀j,(B≤j∧j<w.heap.size∧v.ownBlock≠some j)→B≤j∧j<w2.heap.size∧(Value.slice (some ⟨g,0,none⟩) (l.length+1) cap).ownBlock≠some j:=fun j ⟨a1,a2,a3⟩=>⟨a1,by omega,fun e=>by
    have e':g=j:=by simpa [Value.ownBlock]using e
    rcases hat with e2|e2
    · exact a3 (by rw[e2,e'])
    · omega⟩
  have hF2:∀j,F2 j→B≤j∧j<w.heap.size∧v.ownBlock≠some j:=fun j hj=>⟨Nat.le_trans hB (f1 j hj).1,(f1 j hj).2,fun e=>by have:=hv j e;have:=(f1 j hj).1;omega⟩;refine⟨fun k=>F k∨F2 k,⟨?_,?_,?_,?_,?_⟩,fun k hk=>hk.imp id fun hk=>f1 k hk⟩
  · rw[List.length_append,List.flatten_append]
    simpa using hown
  · simp[h.len]
  · intro c hcm
    rcases List.mem_append.1 hcm with h1|h1
    · exact h.each c h1
    · obtain rfl:c=cs:=by simpa using h1
      exact hc
  · intro k c y h1 h2
    rcases Nat.lt_or_ge k l.length with hl|hl
    · rw[List.getElem?_append_left (by rw[h.len];exact hl)]at h1
      rw[List.getElem?_append_left hl]at h2;exact((h.sub k c y h1 h2).same fun i hi=>hold i (h.far i hi).2.1 (h.far i hi).2.2).mono fun _ hi=> .inl hi
    · rw[List.getElem?_append_right (by rw[h.len];exact hl)]at h1
      rw[List.getElem?_append_right hl]at h2;obtain⟨i1,i2⟩:=List.getElem?_eq_some_iff.1 h1;obtain⟨j1,j2⟩:=List.getElem?_eq_some_iff.1 h2;simp only[List.length_singleton]at i1 j1;simp only[List.getElem_singleton]at i2 j2;subst i2 j2;exact(f2.same fun i hi=>hold i (hF2 i hi).2.1 (hF2 i hi).2.2).mono fun _ hi=> .inr hi
  · exact fun k hk=>hne k (hk.elim (fun hk=>h.far k hk) fun hk=>hF2 k hk)
theorem RowG.one {C:Nat} {cs:List Value} {x:α} (hc:Cel sz cs) (hx:NewAt w0 w C fun W=>P W cs x) (hB:B≤C) (hw:B≤w.heap.size):
    ∃F',RowG w0 (w.alloc (.cells cs.toArray e)) e sz P B (.slice (some ⟨w.heap.size,0,none⟩) 1 1) [cs] [x] F'∧(∀k,F' k→C≤k∧k<w.heap.size):=by
  obtain⟨F2,f1,f2⟩:=hx;refine⟨F2,⟨?_,rfl,?_,?_,?_⟩,f1⟩
  · have:=World.ownsRow_lit (base:=B) (e:=e) (size:=sz) w cs.toArray 1 hw (by decide) (by simp[hc.1])
    simpa using this
  · intro c hcm
    obtain rfl:c=cs:=(by simpa using hcm);exact hc
  · intro k c y h1 h2
    obtain⟨i1,i2⟩:=List.getElem?_eq_some_iff.1 h1;obtain⟨j1,j2⟩:=List.getElem?_eq_some_iff.1 h2;simp only[List.length_singleton]at i1 j1;simp only[List.getElem_singleton]at i2 j2;subst i2 j2;exact f2.same fun i hi=>Below.heap_alloc _ _ _ (f1 i hi).2
  · refine fun k hk=>⟨Nat.le_trans hB (f1 k hk).1,?_,fun e=> ?_⟩
    · have:=(f1 k hk).2;rw[World.size_alloc];omega
    · have e':w.heap.size=k:=by simpa [Value.ownBlock]using e
      have:=(f1 k hk).2;omega
theorem RowG.two {cs ds:List Value} {x y:α} {F2 F3:Nat→Prop} (hc:Cel sz cs) (hd:Cel sz ds) (f2:Stays w0 w F2 fun W=>P W cs x) (g2:Stays w0 w F3 fun W=>P W ds y) (hb:∀k,F2 k∨F3 k→B≤k∧k<w.heap.size) (hw:B≤w.heap.size):
    RowG w0 (w.alloc (.cells (cs++ds).toArray e)) e sz P B (.slice (some ⟨w.heap.size,0,none⟩) 2 2) [cs,ds] [x,y] (fun k=>F2 k∨F3 k):=by
  refine⟨?_,rfl,?_,?_,?_⟩
  · have:=World.ownsRow_lit (base:=B) (e:=e) (size:=sz) w (cs++ds).toArray 2 hw (by decide) (by simp[hc.1,hd.1];omega)
    simpa using this
  · intro c hcm
    simp only[List.mem_cons,List.not_mem_nil,or_false]at hcm
    rcases hcm with rfl|rfl
    · exact hc
    · exact hd
  · intro k c z h1 h2
    match k,h1,h2 with
    |0,h1,h2=>
      simp only[List.getElem?_cons_zero,Option.some.injEq]at h1 h2;subst h1 h2;exact(f2.same fun i hi=>Below.heap_alloc _ _ _ (hb i (.inl hi)).2).mono fun _ h=> .inl h
    |1,h1,h2=>
      simp only[List.getElem?_cons_succ,List.getElem?_cons_zero,Option.some.injEq]at h1 h2;subst h1 h2;exact(g2.same fun i hi=>Below.heap_alloc _ _ _ (hb i (.inr hi)).2).mono fun _ h=> .inr h
    |k+2,h1,h2=>simp at h1
  · refine fun k hk=>⟨(hb k hk).1,?_,fun e=> ?_⟩
    · have:=(hb k hk).2;rw[World.size_alloc];omega
    · have e':w.heap.size=k:=by simpa [Value.ownBlock]using e
      have:=(hb k hk).2;omega
end
def NdC (w:World) (n:Nd) (cs:List Value):Prop:=n.kids= []∧∃wv pv av rv,cs= [txt n.op,txt n.name,.slice none 0 0,wv,pv,av,rv]∧WsAt w wv n.words∧PatsAt w pv n.pats∧AsAt w av n.assigns∧AsAt w rv n.redirs
inductive TrC (w:World):List Value→Tr→Prop
  |mk (n:Nd) (kids:List Tr) (cs:List Value) (kp:Option Addr) (kc:Nat) (css:List (List Value)):NdC w n cs→css.length=kids.length→kids.length≤maxLen→
      (∀(k:Nat) (c:List Value),css[k]? =some c→SpotAt w kp k 8 c)→(∀(k:Nat) (c:List Value) (t:Tr),css[k]? =some c→kids[k]? =some t→TrC w c t)→TrC w (cs++ [.slice kp kids.length kc]) (.mk n kids)
abbrev Kids (w0 w:World) (B:Nat) (v:Value) (css:List (List Value)) (l:List Tr) (F:Nat→Prop):Prop:=RowG w0 w 56 8 TrC B v css l F
theorem Kids.stays {w0 w:World} {B:Nat} {v:Value} {css:List (List Value)} {l:List Tr} {F F2:Nat→Prop} (h:Kids w0 w B v css l F) (hm:l.length≤maxLen) {n:Nd} {cs:List Value} (f2:Stays w0 w F2 fun W=>NdC W n cs):Stays w0 w (fun k=>F2 k∨(F k∨v.ownBlock=some k)) fun W=>TrC W (cs++ [v]) (.mk n l):=by
  intro W hW hf;obtain⟨⟨p,c,hv,h1⟩,h2⟩:=h.slat W hW fun k hk=>hf k (.inr hk);have h3:=f2 W hW fun k hk=>hf k (.inl hk);subst hv;exact .mk n l cs p c css h3 h.len hm h1 h2
theorem Kids.tree {w0 w:World} {B:Nat} {v:Value} {css:List (List Value)} {l:List Tr} {F:Nat→Prop} (h:Kids w0 w B v css l F) (hm:l.length≤maxLen) {n:Nd} {cs:List Value} (hn:NewAt w0 w B fun W=>NdC W n cs):NewAt w0 w B fun W=>TrC W (cs++ [v]) (.mk n l):=by
  obtain⟨F2,f1,f2⟩:=hn;exact⟨fun k=>F2 k∨(F k∨v.ownBlock=some k),fun k hk=>hk.elim (f1 k) (h.lt k),h.stays hm f2⟩
def CapOk (v:Value):Prop:=∃p n c,v= .slice p n c∧n≤c
def ToksAt (w:World) (G o:Nat) (ts:List Tk):Prop:=∀(k:Nat) (t:Tk),ts[k]? =some t→∃u,PsAt w u t.word∧TokC w (some ⟨G,o,none⟩) k t.kind ⟨t.text.toArray⟩ u t.at_∧CapOk u
theorem ToksAt.drop {w:World} {G o:Nat} {ts:List Tk} (h:ToksAt w G o ts) (n:Nat):ToksAt w G (o+n*4) (ts.drop n):=by
  intro k t ht;rw[List.getElem?_drop]at ht;obtain⟨u,hu,⟨b,o',he,h0,h1,h2,h3⟩,hcap⟩:=h (n+k) t ht;simp only[Option.some.injEq,Addr.mk.injEq,and_true]at he;obtain⟨rfl,rfl⟩:=he;have e:o+(n+k)*4=o+n*4+k*4:=(by omega);rw[e]at h0 h1 h2 h3;exact⟨u,hu,⟨G,o+n*4,rfl,h0,h1,h2,h3⟩,hcap⟩
structure PrO (w0 w:World) (X:Nat) (S:PS) (G o c:Nat):Prop where
  below:Below w0.heap.size w0 w
  base:w0.heap.size≤X
  head:w.heap[X]? =some (.cells #[.slice (some ⟨G,o,none⟩) S.ts.length c,.int .i64 (S.at_:Int),.int .i64 (S.err:Int)] 53 (0,0))
  cap:S.ts.length≤c
  toks:ToksAt w0 G o S.ts
  good:GoodS S
def Pr (w0 w:World) (X:Nat) (S:PS):Prop:=∃G o c,PrO w0 w X S G o c
theorem Pr.good {w0 w:World} {X:Nat} {S:PS} (h:Pr w0 w X S):GoodS S:=by
  obtain⟨_,_,_,h⟩:=h;exact h.good
theorem Pr.below {w0 w:World} {X:Nat} {S:PS} (h:Pr w0 w X S):Below w0.heap.size w0 w:=by
  obtain⟨_,_,_,h⟩:=h;exact h.below
theorem Pr.base {w0 w:World} {X:Nat} {S:PS} (h:Pr w0 w X S):w0.heap.size≤X∧X<w.heap.size:=by
  obtain⟨_,_,_,h⟩:=h;exact⟨h.base,(gS.1 h.head).1⟩
theorem Pr.kept {D:Nat→Prop} {w0 w w':World} {X:Nat} {S:PS} (h:Pr w0 w X S) (hk:Kept D w w') (hX:¬D X) (hD:∀k,D k→w0.heap.size≤k):Pr w0 w' X S:=by
  obtain⟨G,o,c,h⟩:=h;exact⟨G,o,c,below_kept h.below hk hD h.below.size,h.base,hk.heap h.head hX,h.cap,h.toks,h.good⟩
theorem Pr.new {w0 w w':World} {X:Nat} {S:PS} (h:Pr w0 w X S) (hb:Below w.heap.size w w'):Pr w0 w' X S:=h.kept (D:=fun _=>False) (Kept.of_below hb) (fun h=>h) fun _ h=>h.elim
def PStep (w0 w w':World) (X:Nat) (S:PS):Prop:=Pr w0 w' X S∧Kept (fun k=>k=X) w w'
theorem PStep.refl {w0 w:World} {X:Nat} {S:PS} (h:Pr w0 w X S):PStep w0 w w X S:=⟨h,Kept.refl _ _⟩
theorem PStep.trans {w0 w w1 w2:World} {X:Nat} {S S':PS} (h:PStep w0 w w1 X S) (k:PStep w0 w1 w2 X S'):PStep w0 w w2 X S':=⟨k.1,h.2.on k.2⟩
theorem PStep.new {w0 w w1 w2:World} {X:Nat} {S:PS} (h:PStep w0 w w1 X S) (hb:Below w1.heap.size w1 w2):PStep w0 w w2 X S:=⟨h.1.new hb,h.2.on (Kept.of_below hb)⟩
theorem PStep.ahead {w0 w w1 w2:World} {X:Nat} {S:PS} (h:Below w.heap.size w w1) (k:PStep w0 w1 w2 X S):PStep w0 w w2 X S:=⟨k.1,(Kept.of_below h).on k.2⟩
def TrEnd (w0 w w':World) (e:Ending) (X:Nat) (r:Tr×PS):Prop:=∃c,e= .returned (.agg c.toArray)∧Cel 8 c∧NewAt w0 w' w.heap.size (fun W=>TrC W c r.1)∧PStep w0 w w' X r.2
theorem PrO.kept0 {w0 w w':World} {X:Nat} {S:PS} {G o c:Nat} (h:PrO w0 w X S G o c) (hb:Below w.heap.size w w'):PrO w0 w' X S G o c:=
  ⟨h.below.trans (hb.mono h.below.size),h.base,(Kept.of_below (D:=fun _=>False) hb).heap h.head (fun h=>h),h.cap,h.toks,h.good⟩
theorem tok_f0 (a d:Int) (b:ByteArray) (p:Option Addr) (n k:Nat) (w:World):(Instr.field 72 (.agg #[.int .i64 a,.string b,.slice p n k,.int .i64 d]) 0).run Tryz.prog w= .ok (.int .i64 a) w:=by kernel_rfl
theorem tok_f1 (a d:Int) (b:ByteArray) (p:Option Addr) (n k:Nat) (w:World):(Instr.field 72 (.agg #[.int .i64 a,.string b,.slice p n k,.int .i64 d]) 1).run Tryz.prog w= .ok (.string b) w:=by kernel_rfl
theorem tok_f2 (a d:Int) (b:ByteArray) (p:Option Addr) (n k:Nat) (w:World):(Instr.field 72 (.agg #[.int .i64 a,.string b,.slice p n k,.int .i64 d]) 2).run Tryz.prog w= .ok (.agg #[.slice p n k]) w:=by kernel_rfl
theorem tok_f3 (a d:Int) (b:ByteArray) (p:Option Addr) (n k:Nat) (w:World):(Instr.field 72 (.agg #[.int .i64 a,.string b,.slice p n k,.int .i64 d]) 3).run Tryz.prog w= .ok (.int .i64 d) w:=by kernel_rfl
def tkV (t:Tk) (p:Option Addr) (c:Nat):Value:= .agg #[.int .i64 t.kind,.string (T t.text),.slice p t.word.length c,.int .i64 (t.at_:Int)]
theorem tok_info:(Tryz.prog.info? 72).map (·.size)=some 4:=by kernel_rfl
theorem ret_tok {fn:Func} {p:Tmp} (hf:fn.results= #[.cell p 72]) {tmps:Array Value} {k:Nat} {a b c d:Value} {w:World} {t:TypeId} {fr:Nat×Nat} (h:w.heap[k]? =some (.cells #[a,b,c,d] t fr)) (h2:tmps.getD p undef= .pointer (some ⟨k,0,none⟩)):
    (results fn tmps).run Tryz.prog w= .ok (.agg #[a,b,c,d]) w:=results_cell_row hf tmps w k t #[a,b,c,d] fr _ h2 h Tryz.underlying72 rfl tok_info
theorem node_info:(Tryz.prog.info? 56).map (·.size)=some 8:=by kernel_rfl
theorem ret_tree {fn:Func} {p:Tmp} (hf:fn.results= #[.cell p 56]) {tmps:Array Value} {k:Nat} {cs:List Value} {w:World} {t:TypeId} {fr:Nat×Nat} (h:w.heap[k]? =some (.cells cs.toArray t fr)) (hc:Cel 8 cs) (h2:tmps.getD p undef= .pointer (some ⟨k,0,none⟩)):
    (results fn tmps).run Tryz.prog w= .ok (.agg cs.toArray) w:=results_cell_row hf tmps w k t cs.toArray fr _ h2 h Tryz.underlying56 rfl (by rw[node_info];simp[hc.1])
theorem PrO.hd2 {w0 w:World} {X G o c:Nat} {S:PS} (h:PrO w0 w X S G o c):∃p k,(PsAt w0 (.slice p S.hd.word.length k) S.hd.word∧S.hd.word.length≤k)∧w.cell? ⟨G,o,none⟩=some (.int .i64 S.hd.kind)∧w.cell? ⟨G,o+1,none⟩=some (.string (T S.hd.text))∧w.cell? ⟨G,o+2,none⟩=some (.slice p S.hd.word.length k)∧w.cell? ⟨G,o+3,none⟩=some (.int .i64 (S.hd.at_:Int)):=by
  have h0:S.ts[0]? =some S.hd:=by
    rcases h.good.hd with ⟨-,e⟩|⟨-, -,e⟩<;>rw[e]<;>rfl
  obtain⟨u,hu,ht,hcap⟩:=h.toks 0 _ h0;obtain⟨b,o',he,a0,a1,a2,a3⟩:=ht.below h.below;simp only[Option.some.injEq,Addr.mk.injEq,and_true]at he;obtain⟨rfl,rfl⟩:=he;obtain⟨p,k,rfl, -⟩:=hu.is;rw[Nat.zero_mul]at a0 a1 a2 a3;obtain⟨p',n',k',e',hle⟩:=hcap;simp only[Value.slice.injEq]at e';obtain⟨rfl,rfl,rfl⟩:=e';exact⟨p,k,⟨hu,hle⟩,a0,a1,a2,a3⟩
theorem PrO.hd0 {w0 w:World} {X G o c:Nat} {S:PS} (h:PrO w0 w X S G o c):∃p k,PsAt w0 (.slice p S.hd.word.length k) S.hd.word∧
    w.cell? ⟨G,o,none⟩=some (.int .i64 S.hd.kind)∧w.cell? ⟨G,o+1,none⟩=some (.string (T S.hd.text))∧w.cell? ⟨G,o+2,none⟩=some (.slice p S.hd.word.length k)∧w.cell? ⟨G,o+3,none⟩=some (.int .i64 (S.hd.at_:Int)):=by
  obtain⟨p,k,h1,h2⟩:=h.hd2;exact⟨p,k,h1.1,h2⟩
theorem cell_alloc {w:World} {a:Addr} {v:Value} (h:w.cell? a=some v) (o:Obj):(w.alloc o).cell? a=some v:=((Below.refl _ w).alloc (Nat.le_refl _) o).cell (World.block_lt_of_cell? w _ h)|>.trans h
theorem frozen_alloc {w:World} {a:Addr} {v:Value} (h:w.cell? a=some v) (hf:w.frozen? a=false) (o:Obj):(w.alloc o).frozen? a=false:=(World.frozen?_of_block (((Below.refl _ w).alloc (Nat.le_refl _) o).block _ (World.block_lt_of_cell? w _ h))).trans hf
theorem pnext_any {w0 w:World} {X:Nat} {S:PS} (h:Pr w0 w X S):
    Calls Tryz.prog 45 #[.pointer (some ⟨X,0,none⟩)] w fun e w'=> ∃p k,e= .returned (tkV S.hd p k)∧PsAt w0 (.slice p S.hd.word.length k) S.hd.word∧Below w.heap.size w w':=by
  obtain⟨G,o,c,h⟩:=h;have c0:w.cell? ⟨X,0,none⟩=some (.slice (some ⟨G,o,none⟩) S.ts.length c):=(by rw[cell_plain h.head];rfl);obtain⟨p,k,hu,a0,a1,a2,a3⟩:=h.hd0;have HU:=yH hu;obtain⟨N,hN⟩:∃N,S.ts.length=N:=⟨_,rfl⟩;have hp:=h.good.pos;rw[hN]at c0 hp;have hN0:(0:Int)<(N:Int):=(by omega);unfold tkV;obtain⟨t,ht⟩:∃t,S.hd=t:=⟨_,rfl⟩;rw[ht]at a0 a1 a2 a3 HU ⊢;obtain⟨kd,hkd⟩:∃x,t.kind=x:=⟨_,rfl⟩;obtain⟨tx,htx⟩:∃x,T t.text=x:=⟨_,rfl⟩;obtain⟨wl,hwl⟩:∃x,t.word.length=x:=⟨_,rfl⟩;obtain⟨at_,hat⟩:∃x:Int,(t.at_:Int)=x:=⟨_,rfl⟩;rw[hkd]at a0 ⊢;rw[htx]at a1 ⊢;rw[hwl]at a2 HU ⊢;rw[hat]at a3 ⊢;have d:=cell_alloc c0;have d0:=cell_alloc a0;have d1:=cell_alloc a1;have d2:=cell_alloc a2;have d3:=cell_alloc a3;clear h hN hp ht hkd htx hwl hat hu c0 a0 a1 a2 a3;go_enter Tryz.func45,Tryz.ntmps45;go_wp2_with fail
  (try simp only[Exit.inBlock,Exit.then])
  refine bodyPost_ret (ret_tok rfl (heap_alloc_new w _) rfl) rfl ?_;exact⟨p,k,rfl,HU.out,(Below.refl _ w).alloc (Nat.le_refl _) _⟩
theorem pnext2_any {w0 w:World} {X:Nat} {S:PS} (h:Pr w0 w X S):
    Calls Tryz.prog 45 #[.pointer (some ⟨X,0,none⟩)] w fun e w'=> ∃p k,e= .returned (tkV S.hd p k)∧(PsAt w0 (.slice p S.hd.word.length k) S.hd.word∧S.hd.word.length≤k)∧Below w.heap.size w w':=by
  obtain⟨G,o,c,h⟩:=h;have c0:w.cell? ⟨X,0,none⟩=some (.slice (some ⟨G,o,none⟩) S.ts.length c):=(by rw[cell_plain h.head];rfl);obtain⟨p,k,hu,a0,a1,a2,a3⟩:=h.hd2;have HU:=yH hu;obtain⟨N,hN⟩:∃N,S.ts.length=N:=⟨_,rfl⟩;have hp:=h.good.pos;rw[hN]at c0 hp;have hN0:(0:Int)<(N:Int):=(by omega);unfold tkV;obtain⟨t,ht⟩:∃t,S.hd=t:=⟨_,rfl⟩;rw[ht]at a0 a1 a2 a3 HU ⊢;obtain⟨kd,hkd⟩:∃x,t.kind=x:=⟨_,rfl⟩;obtain⟨tx,htx⟩:∃x,T t.text=x:=⟨_,rfl⟩;obtain⟨wl,hwl⟩:∃x,t.word.length=x:=⟨_,rfl⟩;obtain⟨at_,hat⟩:∃x:Int,(t.at_:Int)=x:=⟨_,rfl⟩;rw[hkd]at a0 ⊢;rw[htx]at a1 ⊢;rw[hwl]at a2 HU ⊢;rw[hat]at a3 ⊢;have d:=cell_alloc c0;have d0:=cell_alloc a0;have d1:=cell_alloc a1;have d2:=cell_alloc a2;have d3:=cell_alloc a3;clear h hN hp ht hkd htx hwl hat hu c0 a0 a1 a2 a3;go_enter Tryz.func45,Tryz.ntmps45;go_wp2_with fail
  (try simp only[Exit.inBlock,Exit.then])
  refine bodyPost_ret (ret_tok rfl (heap_alloc_new w _) rfl) rfl ?_;exact⟨p,k,rfl,HU.out,(Below.refl _ w).alloc (Nat.le_refl _) _⟩
theorem ToksAt.tail {w:World} {G o:Nat} {ts:List Tk} (h:ToksAt w G o ts):ToksAt w G (o+4) ts.tail:=by
  have:=h.drop 1
  rwa [Nat.one_mul,List.drop_one]at this
theorem heap_set_other {w:World} {g k:Nat} (h:k≠g) (i:Nat) (u:Value):(w.setCell ⟨g,i,none⟩ u).heap[k]? =w.heap[k]? :=Below.heap_setCell _ _ _ _ h
theorem kept_row {w w1:World} {g:Nat} (h:Below w.heap.size w w1) (hg:w.heap.size≤g) (cs:Array Value):Kept (fun i=>w.heap.size≤i) w (w1.setRow g cs):=
  ⟨h.os,h.tape,h.output,by rw[setRow_size];exact h.size,fun i hi _=>by rw[setRow_other _ _ _ _ (by omega)];exact h.block i hi⟩
theorem kept_row0 (w:World) (g:Nat) (cs:Array Value):Kept (fun i=>i=g) w (w.setRow g cs):=
  ⟨rfl,rfl,rfl,by rw[setRow_size];exact Nat.le_refl _,fun i _ h=>setRow_other _ _ _ _ h⟩
theorem PrO.tail {w0 w:World} {X:Nat} {S:PS} {G o c:Nat} (h:PrO w0 w X S G o c) (hk:S.hd.kind≠3):
    Pr w0 (w.setCell ⟨X,0,none⟩ (.slice (some ⟨G,o+4,none⟩) (S.ts.length-1) (c-1))) X S.take:=by
  have hc:=h.cap;have e:S.take= { S with ts:=S.ts.tail } :=(by unfold PS.take;rw[if_neg hk]);have hl:S.ts.tail.length=S.ts.length-1:=(by simp);refine⟨G,o+4,c-1,h.below.setCell h.base _,h.base,?_,by rw[e,hl];omega,by rw[e];exact h.toks.tail,(to_take h.good).good⟩;rw[e,hl];have:=heap_setCell_same w X 0 _ _ (.slice (some ⟨G,o+4,none⟩) (S.ts.length-1) (c-1)) h.head
  simpa using this
set_option maxHeartbeats 400000 in
theorem ptake_any {w0 w:World} {X:Nat} {S:PS} (h:Pr w0 w X S):
    Calls Tryz.prog 105 #[.pointer (some ⟨X,0,none⟩)] w fun e w'=> ∃p k,e= .returned (tkV S.hd p k)∧PsAt w0 (.slice p S.hd.word.length k) S.hd.word∧PStep w0 w w' X S.take:=by
  obtain⟨Z,hZ⟩:∃Z:Obj,Z= .cells #[.int .i64 0,.string ⟨#[]⟩,.slice none 0 0,.int .i64 0] 72:=⟨_,rfl⟩;have h1:Pr w0 (w.alloc Z) X S:=h.new ((Below.refl _ w).alloc (Nat.le_refl _) _);have HN:=yH (pnext_any h1);have HP:=yH h;have HX:=yH h.base;have htw:=two_of h.good;obtain⟨G,o,c,h1⟩:=h1;have HO:=yH h1;have HSAME:=yH (show S.hd.kind=3→S.take=S from fun hk=>by unfold PS.take;rw[if_pos hk]);have hca:=h1.cap;obtain⟨N,hN⟩:∃N,S.ts.length=N:=⟨_,rfl⟩;have HNN:=yH hN;rw[hN]at htw hca;obtain⟨t,ht⟩:∃t,S.hd=t:=⟨_,rfl⟩;have HH:=yH ht;rw[ht]at HN HSAME htw ⊢;unfold tkV at HN ⊢;obtain⟨kd,hkd⟩:∃x,t.kind=x:=⟨_,rfl⟩;have HK:=yH hkd;obtain⟨tx,htx⟩:∃x,T t.text=x:=⟨_,rfl⟩;obtain⟨wl,hwl⟩:∃x,t.word.length=x:=⟨_,rfl⟩;obtain⟨at_,hat⟩:∃x:Int,(t.at_:Int)=x:=⟨_,rfl⟩;rw[hkd]at HSAME htw;simp only[hkd,htx,hwl,hat]at HN ⊢;have HB0:=yH (show Below w.heap.size w (w.alloc Z)from (Below.refl w.heap.size w).alloc (Nat.le_refl _) Z);obtain⟨wz,hwz⟩:∃wz,wz=w.alloc Z:=⟨_,rfl⟩;have HZ0:=yH (show wz.heap[w.heap.size]? =some Z∧wz.heap.size=w.heap.size+1 from by rw[hwz];exact⟨heap_alloc_new w Z,by simp⟩);rw[←hwz]at HO HB0;have HW:=yH (hwz.trans (by rw[hZ]));rw[hZ]at HN;clear hwz
  have key:∀w1,Below wz.heap.size wz w1→w1.heap[w.heap.size]? =some Z∧PrO w0 w1 X S G o c∧w1.cell? ⟨X,0,none⟩=some (.slice (some ⟨G,o,none⟩) N c)∧w1.frozen? ⟨X,0,none⟩=false∧w.heap.size<w1.heap.size∧X≠w.heap.size∧X<w1.heap.size:=fun w1 hb=>by
    have hr:=HO.out.kept0 hb;have hx:=(gS.1 hr.head).1;have h0:=HX.out;have hs:=hb.size;have hz:=HZ0.out.2;exact⟨(hb.block w.heap.size (by omega)).trans HZ0.out.1,hr,by rw[cell_plain hr.head,←HNN.out];rfl,frozen_plain hr.head 0,by omega,by omega,hx⟩
  have HKEY:=yH key;clear h h1 hN ht hkd htx hwl hat key
  by_cases h3:kd=3
  · subst h3
    rw[HSAME.out rfl];go_enter Tryz.func105,Tryz.ntmps105
    go_wp2_with (first
      |(go_at_call 45;refine HN.out.mono ?_;rintro e w1 ⟨p,k,rfl,hu,hb1⟩;have HU:=yH hu;have HB1:=yH (show Below wz.heap.size wz w1 from by rw[HW.out];exact hb1);clear hu hb1)
      |(refine wpList_store_row (by rfl) 72 (.tmp 2) (.tmp 17) (by rfl) w.heap.size #[.int .i64 3,.string tx,.slice p wl k,.int .i64 at_] (by rfl) (by rfl) 72 #[.int .i64 0,.string ⟨#[]⟩,.slice none 0 0,.int .i64 0] ((Below.heap_alloc w1 _ _ (HKEY.out w1 HB1.out).2.2.2.2.1).trans (by rw[(HKEY.out w1 HB1.out).1,hZ])) tok_info rfl (by simp[Value.oneCell']) ?_))
    (try simp only[Exit.inBlock,Exit.then])
    obtain⟨k1,k2,k3,k4,k5,k6,k7⟩:=HKEY.out w1 HB1.out;refine bodyPost_ret (ret_tok rfl (setRow_heap _ w.heap.size _ _ _ (0,0) ((Below.heap_alloc w1 _ _ k5).trans (by rw[k1,hZ]))) rfl) rfl ?_;have hk1:Below w.heap.size w (w1.alloc (.cells #[.int .i64 3,.string tx,.slice p wl k,.int .i64 at_] 72)):=(HB0.out.trans (HB1.out.mono HB0.out.size)).alloc (by omega) _;refine⟨p,k,rfl,HU.out,?_,?_⟩
    · exact HP.out.kept (D:=fun i=>w.heap.size≤i) (kept_row hk1 (Nat.le_refl _) _) (by have:=HX.out;omega) (fun i hi=>by have:=HX.out;omega)
    · exact(kept_row hk1 (Nat.le_refl _) _).mono fun i h1 h2=>absurd h1 (by omega)
  · have h2N:=htw h3
    have hkd:(kd !=3)=true:=(by simpa using h3);have q1:(1:Int)≤(N:Int):=(by omega);have q2:(N:Int)≤(c:Int):=(by omega);have q3:(1:Int)<(c:Int):=(by omega)
    have q4:(c-1==0)=false:=by
      have:¬c-1=0:=by omega
      simpa using this
    have HK3:=yH (show S.hd.kind≠3 from by rw[HH.out,HK.out];exact h3);clear htw hca h2N h3;go_enter Tryz.func105,Tryz.ntmps105
    go_wp2_with (first
      |(go_at_call 45;refine HN.out.mono ?_;rintro e w1 ⟨p,k,rfl,hu,hb1⟩;have HU:=yH hu;have HB1:=yH (show Below wz.heap.size wz w1 from by rw[HW.out];exact hb1);clear hu hb1;have d:=cell_alloc (HKEY.out w1 HB1.out).2.2.1;have df:=frozen_alloc (HKEY.out w1 HB1.out).2.2.1 (HKEY.out w1 HB1.out).2.2.2.1)
      |(refine wpList_load_row (by rfl) 72 (.tmp 3) (by rfl) w1.heap.size (by rfl) 72 #[.int .i64 kd,.string tx,.slice p wl k,.int .i64 at_] (0,0) _ ((heap_set_other (Nat.ne_of_gt (HKEY.out w1 HB1.out).2.2.2.2.2.2) _ _).trans (heap_alloc_new w1 _)) Tryz.underlying72 rfl tok_info ?_)
      |(refine wpList_store_row (by rfl) 72 (.tmp 2) (.tmp 17) (by rfl) w.heap.size #[.int .i64 kd,.string tx,.slice p wl k,.int .i64 at_] (by rfl) (by rfl) 72 #[.int .i64 0,.string ⟨#[]⟩,.slice none 0 0,.int .i64 0] ((heap_set_other (Ne.symm (HKEY.out w1 HB1.out).2.2.2.2.2.1) _ _).trans ((Below.heap_alloc w1 _ _ (HKEY.out w1 HB1.out).2.2.2.2.1).trans (by rw[(HKEY.out w1 HB1.out).1,hZ]))) tok_info rfl (by simp[Value.oneCell']) ?_))
    (try simp only[Exit.inBlock,Exit.then])
    obtain⟨k1,k2,k3,k4,k5,k6,k7⟩:=HKEY.out w1 HB1.out;refine bodyPost_ret (ret_tok rfl (setRow_heap _ w.heap.size _ _ _ (0,0) ((heap_set_other (Ne.symm k6) _ _).trans ((Below.heap_alloc w1 _ _ k5).trans (by rw[k1,hZ])))) rfl) rfl ?_;have hk1:Below w.heap.size w (w1.alloc (.cells #[.int .i64 kd,.string tx,.slice p wl k,.int .i64 at_] 72)):=(HB0.out.trans (HB1.out.mono HB0.out.size)).alloc (by omega) _;have hr:=(k2.kept0 ((Below.refl _ w1).alloc (Nat.le_refl _) (.cells #[.int .i64 kd,.string tx,.slice p wl k,.int .i64 at_] 72))).tail HK3.out;rw[HNN.out]at hr;refine⟨p,k,rfl,HU.out,?_,?_⟩
    · exact hr.kept (D:=fun i=>i=w.heap.size) (kept_row0 _ _ _) k6 (fun i hi=>by have:=HX.out;omega)
    · refine((Kept.of_below (D:=fun i=>i=X) hk1).setCell (p:=⟨X,0,none⟩) (.inl rfl) _).trans (kept_row0 _ w.heap.size _) fun i hi=> .inr (by omega)
end Go.Proofs.YtakceggnadagmaaGreatDoor
